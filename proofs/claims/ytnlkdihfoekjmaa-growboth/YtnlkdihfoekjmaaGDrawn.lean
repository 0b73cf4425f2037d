/- The solver's drawn: its walk. -/
import Derived.Test.YtnlkdihfoekjmaaGDraw
namespace Go.Proofs.Ytnlkdihfoekjmaa
open Go.RowKit
set_option linter.unusedVariables false

set_option maxHeartbeats 6400000 in
set_option maxRecDepth 100000 in
theorem drawn_any (G : Gm) (fr : Nat → List Nat) (B : Box) (g c g' c' : Nat) (i : Int) (goal part : Nat → Bool) (M : Nat → Int) (w : World) (hR : Ready G fr B w) (h : BRow w g G.n c goal) (h' : BRow w g' G.n c' part) (hM : IRow w B.bm G.n G.n M)
    (hG : GoodG G) (hF : FrOk G fr) (hS : Sub G part) (hgp : ∀ q, goal q = true → part q = true) :
    Calls Try.prog 39 #[.pointer (some ⟨B.s, 0, none⟩), .int .i64 i, .slice (some ⟨g, 0, none⟩) G.n c, .slice (some ⟨g', 0, none⟩) G.n c'] w (DrawPost G B i goal part M w) := by
  have hn := hG.n60
  have hn1 := hG.n1
  have R : Hid (Ready G fr B w) := hR
  have GD : Hid (GoodG G) := hG
  have FO : Hid (FrOk G fr) := hF
  have SU : Hid (Sub G part) := hS
  have Q0 : Hid (Que G i goal part M 0 [] (plcs G.n goal) goal (needF G i part) M) := Que.start M hS hgp (fun q => by rw [plcs_mem]; exact ⟨fun e => e.2, fun e => ⟨(hS q (hgp q e)).1, e⟩⟩) (plcs_nodup _ _)
  have HC : Hid (Calls Try.prog 48 #[.slice (some ⟨g, 0, none⟩) G.n c] w (SetPost G.n goal w)) := cloneS_any G.n g c goal w h hn1 hn
  have HP : Hid (∀ W, w.grownBy W none → Calls Try.prog 47 #[.slice (some ⟨g, 0, none⟩) G.n c] W (PlcsPost G.n goal W)) := fun W hW => places_any G.n g c goal W (h.kept hW) hn
  have HD : Hid (∀ W, w.grownBy W none → Calls Try.prog 49 #[.pointer (some ⟨B.s, 0, none⟩), .int .i64 i, .slice (some ⟨g', 0, none⟩) G.n c'] W (NeedPost G i part W)) := fun W hW => needs_any G fr B g' c' i part W (hR.grown hW) (h'.kept hW) hG
  have HMv : Hid (IRow w B.bm G.n G.n M) := hM
  obtain ⟨P, hP⟩ : ∃ P, P = DrawPost G B i goal part M w := ⟨_, rfl⟩
  have HPo : Hid (P = DrawPost G B i goal part M w) := hP
  rw [← hP]
  obtain ⟨n, hnn⟩ : ∃ n, G.n = n := ⟨_, rfl⟩
  have HN : Hid (G.n = n) := hnn
  rw [hnn] at HC HP HD HMv Q0 hn hn1 ⊢
  clear hR h hP hnn hM hG hF hS hgp h'
  go_enter Try.func39, Try.ntmps39
  go_wp2_with fail
  refine HC.out.mono ?_
  rintro E w2 ⟨go, co, rfl, hr2, hb2, hg2⟩
  have R2 : Hid (BRow w2 go n co goal) := hr2
  have G2 : Hid (w.grownBy w2 none) := hg2
  clear HC hr2 hg2
  go_wp2_with fail
  refine (HP.out _ G2.out).mono ?_
  rintro E w3 ⟨a, ca, m, hm, rfl, ho3, hg3⟩
  have O3 : Hid (Owns w2.heap.size w3 [(3, .slice a m ca, nvals (plcs n goal))]) := ho3
  have G3 : Hid (w2.grownBy w3 none) := hg3
  have HM0 : Hid (m = (plcs n goal).length) := hm
  clear HP ho3 hg3 hm
  go_wp2_with fail
  refine (HD.out _ (grown_trans G2.out G3.out)).mono ?_
  rintro E w4 ⟨gn, rfl, hr4, hb4, hg4⟩
  rw [HN.out] at hr4 ⊢
  have D0 : Hid (DrAt B n w2.heap.size go co gn w w4 a m ca (plcs n goal) goal (needF G i part) M) := by
    have l0 := R2.out.lt
    have l1 := HMv.out.lt
    have l2 := G2.out.size
    have l3 := G3.out.size
    have o4 := owns_join O3.out hg4 (hr4.owns hb4 (by unfold maxLen; omega)) l3
    exact ⟨owns_2 o4, (R2.out.kept G3.out).kept hg4, ((HMv.out.kept G2.out).kept G3.out).kept hg4, Turn.of (grown_trans (grown_trans G2.out G3.out) hg4), l0, by omega, by omega, hb2, l2, Nat.le_trans l3 hg4.size⟩
  clear HD hr4 hb4 hg4 R2 G2 O3 G3
  generalize w2.heap.size = B0 at *
  go_wp2_with fail
  go_loopw [10, 12] (fun u v wr => ∃ (k m : Nat) (a : Option Addr) (ca : Nat) (row : List Nat) (out : Nat → Bool) (nd M' : Nat → Int), u = .slice a m ca ∧ v = .int .i64 k ∧ m = row.length ∧ DrAt B n B0 go co gn w wr a m ca row out nd M' ∧ Que G i goal part M k [] row out nd M') (fun u v _ => n - (intOf v).toNat)
  case atStart => exact ⟨0, m, a, ca, _, _, _, _, rfl, rfl, HM0.out, D0.out, Q0.out⟩
  case round =>
    clear D0 Q0 HM0
    obtain ⟨k, m, a, ca, row, out, nd, M', rfl, rfl, hm, hd, hq⟩ := hrel
    have D : Hid (DrAt B n B0 go co gn w wr a m ca row out nd M') := hd
    have Q : Hid (Que G i goal part M k [] row out nd M') := hq
    have HM : Hid (m = row.length) := hm
    have hmn : m ≤ n := by have := hq.rowLen SU.out; rw [HN.out] at this; omega
    clear hd hq hm
    by_cases hlt : k < m
    · have hki : (k : Int) < (m : Int) := by omega
      have hkl : k < row.length := by rw [← HM.out]; exact hlt
      obtain ⟨br, rfl, hcr⟩ := D.out.rowC hkl
      have hxn : row.getD k 0 < n := by
        have := (SU.out _ (Q.out.within _ (getD_mem hkl))).1
        rwa [HN.out] at this
      have HX : Hid (row[k]? = some (row.getD k 0)) := by show _ = _; simp [List.getD, hkl]
      obtain ⟨x, hx⟩ : ∃ x, row.getD k 0 = x := ⟨_, rfl⟩
      rw [hx] at hcr hxn HX
      have hxi : (x : Int) < (n : Int) := by omega
      have HTm : Hid (∀ W, Turn (fun y => y = B.bm) w W → SolB G fr B W) := fun W hW => R.out W (hW.mono (fun _ _ e => .inr e))
      have h5 := (HTm.out wr D.out.turn).fr0
      obtain ⟨h6, _⟩ := (HTm.out wr D.out.turn).fr x (by rw [HN.out]; exact hxn)
      rw [HN.out] at h5
      have HFN : Hid (∀ W, Turn (fun y => y = B.bm) w W → NatsAt W (B.fa x) (fr x)) := fun W hW => ((HTm.out W hW).fr x (by rw [HN.out]; exact hxn)).2
      have HFm : Hid (∀ p, p ∈ fr x ↔ p < n ∧ x ∈ G.nx p) := fun p => by rw [← HN.out]; exact FO.out.mem x (by rw [HN.out]; exact hxn) p
      have HFd : Hid ((fr x).Nodup) := FO.out.nodup x (by rw [HN.out]; exact hxn)
      have HFl : Hid ((fr x).length ≤ n) := by show _ ≤ _; rw [← HN.out]; exact FO.out.len (by rw [HN.out]; exact hxn)
      obtain ⟨l, hl⟩ : ∃ l, fr x = l := ⟨_, rfl⟩
      rw [hl] at h6 HFN HFm HFd HFl
      obtain ⟨ln, hln⟩ : ∃ ln, l.length = ln := ⟨_, rfl⟩
      have HLl : Hid (l.length = ln) := hln
      have hln60 : ln ≤ 100 := by have := HFl.out; omega
      rw [hln] at h6
      generalize B.fa x = fa at *
      clear hx hl hln HFl
      go_wp2_with fail
      go_quiet (fail)
      go_wp2_with fail
      clear h5 h6 hcr
      go_loopw [10, 40] (fun u v wr => ∃ (t m : Nat) (a : Option Addr) (ca : Nat) (row : List Nat) (out : Nat → Bool) (nd M' : Nat → Int), u = .slice a m ca ∧ v = .int .i64 t ∧ t ≤ ln ∧ m = row.length ∧ k < m ∧ row[k]? = some x ∧ DrAt B n B0 go co gn w wr a m ca row out nd M' ∧ Que G i goal part M k (l.take t) row out nd M') (fun _ v _ => ln - (intOf v).toNat)
      case atStart => exact ⟨0, m, _, ca, row, out, nd, M', rfl, rfl, by omega, HM.out, hlt, HX.out, D.out.kept (grown_drewN (grown_refl _ _) _), by simpa using Q.out⟩
      case round =>
        clear D Q HM HX hlt hki hkl hmn
        obtain ⟨t, m, a, ca, row, out, nd, M', rfl, rfl, ht, hm, hkm, hx, hd, hq⟩ := hrel
        have D : Hid (DrAt B n B0 go co gn w wr a m ca row out nd M') := hd
        have Q : Hid (Que G i goal part M k (l.take t) row out nd M') := hq
        have HM : Hid (m = row.length) := hm
        have HX : Hid (row[k]? = some x) := hx
        have hmn : m ≤ n := by have := hq.rowLen SU.out; rw [HN.out] at this; omega
        clear hd hq hm hx
        by_cases hlt : t < ln
        · have hti : (t : Int) < (ln : Int) := by omega
          have htl : t < l.length := by rw [HLl.out]; exact hlt
          obtain ⟨b5, o5, rfl, hc5⟩ := (HFN.out wr D.out.turn).at htl
          have h5 := hc5 t htl
          have HT5 : Hid (l.take (t + 1) = l.take t ++ [l.getD t 0]) := take_get htl
          have HNo : Hid (l.getD t 0 ∉ l.take t) := take_no HFd.out htl
          have hpm := (HFm.out _).1 (getD_mem htl)
          obtain ⟨p, hp⟩ : ∃ p, l.getD t 0 = p := ⟨_, rfl⟩
          rw [hp] at h5 HT5 hpm HNo
          obtain ⟨hpn, hxp⟩ := hpm
          have HXP : Hid (x ∈ G.nx p) := hxp
          have hpi : (p : Int) < (n : Int) := by omega
          obtain ⟨c0, f0⟩ := D.out.needC hpn
          have c1 := D.out.outs.cell hpn
          have hrg := Q.out.range GD.out (p := p) (by rw [HN.out]; exact hpn)
          obtain ⟨nd1, hnd1⟩ : ∃ nd1 : Nat → Int, nd1 = fun q => if q = p then nd p - 1 else nd q := ⟨_, rfl⟩
          have e1 : nd1 p = nd p - 1 := by rw [hnd1]; simp
          have e2 : ∀ q, q ≠ p → nd1 q = nd q := fun q hq => by rw [hnd1]; simp [hq]
          have D1 : Hid (∀ z, nd p - 1 = z → DrAt B n B0 go co gn w (wr.setCell ⟨gn, p, none⟩ (.int .i64 z)) a m ca row out nd1 M') := fun z hz => D.out.dec hpn (e1.trans hz) e2
          have QS : Hid (nd p - 1 ≠ 0 ∨ out p = true → Que G i goal part M k (l.take (t + 1)) row out nd1 M') := fun hno => by rw [HT5.out]; exact Q.out.skip (by rw [HN.out]; exact hpn) HNo.out e1 e2 hno
          have QP : Hid (nd p - 1 = 0 → out p = false → Que G i goal part M k (l.take (t + 1)) (row ++ [p]) (fun q => if q = p then true else out q) nd1 (fun q => if q = p then (x : Int) else M' q)) := fun h0 ho => by
            rw [HT5.out]
            exact Q.out.put (by intro q hq; exact GD.out.nodup q hq) HX.out (by rw [HN.out]; exact hpn) HNo.out HXP.out e1 e2 h0 ho (by simp) (fun q hq => by simp [hq]) (by simp) (fun q hq => by simp [hq])
          obtain ⟨z, hz⟩ : ∃ z, nd p = z := ⟨_, rfl⟩
          rw [hz] at c0 D1 QS QP hrg
          obtain ⟨bo, hbo⟩ : ∃ bo, out p = bo := ⟨_, rfl⟩
          rw [hbo] at c1 QS QP
          have cd1 : ∀ y, z - 1 = y → (wr.setCell ⟨gn, p, none⟩ (.int .i64 y)).cell? ⟨gn, p, none⟩ = some (.int .i64 y) := fun y hy => by
            have := ((D1.out y hy).needC hpn).1
            rw [this, hnd1]; simp [hz, hy]
          have co1 : ∀ y, z - 1 = y → (wr.setCell ⟨gn, p, none⟩ (.int .i64 y)).cell? ⟨go, p, none⟩ = some (.bool bo) := fun y hy => by
            rw [← hbo]; exact (D1.out y hy).outs.cell hpn
          have fo1 : ∀ y, z - 1 = y → (wr.setCell ⟨gn, p, none⟩ (.int .i64 y)).frozen? ⟨go, p, none⟩ = false := fun y hy => (D1.out y hy).outs.frozen p
          clear hc5 hp hz hbo hnd1 e1 e2 hxp D Q
          by_cases hz1 : z = 1
          · subst hz1
            have cd := cd1 0 (by omega)
            have co' := co1 0 (by omega)
            have fo := fo1 0 (by omega)
            have D2 : Hid _ := D1.out 0 (by omega)
            clear cd1 co1 fo1 D1
            cases bo with
            | true =>
              have Q2 : Hid _ := QS.out (.inr rfl)
              clear QS QP
              go_wp2_with fail
              go_roundw
              case rel => exact ⟨t + 1, m, a, ca, row, out, nd1, M', rfl, by go_num, by omega, HM.out, hkm, HX.out, D2.out, Q2.out⟩
              case measure => simp [intOf]; omega
            | false =>
              have Q2 : Hid _ := QP.out (by omega) rfl
              clear QS QP
              have D3 : Hid (DrAt B n B0 go co gn w ((wr.setCell ⟨gn, p, none⟩ (.int .i64 0)).setCell ⟨go, p, none⟩ (.bool true)) a m ca row (fun q => if q = p then true else out q) nd1 M') := D2.out.putOut hpn (by simp) (fun q hq => by simp [hq])
              have hs2 : ((wr.setCell ⟨gn, p, none⟩ (.int .i64 0)).setCell ⟨go, p, none⟩ (.bool true)).heap.size = wr.heap.size := by simp [World.setCell]
              have D4 : Hid (DrAt B n B0 go co gn w (((wr.setCell ⟨gn, p, none⟩ (.int .i64 0)).setCell ⟨go, p, none⟩ (.bool true)).alloc (.cells #[.int .i64 (p : Int)] 3)) a m ca row (fun q => if q = p then true else out q) nd1 M') := D3.out.kept (grown_alloc _ _)
              have hO : Hid ((((wr.setCell ⟨gn, p, none⟩ (.int .i64 0)).setCell ⟨go, p, none⟩ (.bool true)).alloc (.cells #[.int .i64 (p : Int)] 3)).ownsRow B0 3 1 (.slice a m ca) m (nvals row)) := by
                have := D4.out.own.row
                rw [nvals_len, ← HM.out] at this
                exact this
              have hN4 : Hid (∀ j u, [Value.int .i64 (p : Int)][j]? = some u → (((wr.setCell ⟨gn, p, none⟩ (.int .i64 0)).setCell ⟨go, p, none⟩ (.bool true)).alloc (.cells #[.int .i64 (p : Int)] 3)).cell? ((⟨wr.heap.size, 0, none⟩ : Addr).add j) = some u) := fun j u hu => by
                have := cell_one_new ((wr.setCell ⟨gn, p, none⟩ (.int .i64 0)).setCell ⟨go, p, none⟩ (.bool true)) (.int .i64 (p : Int)) 3 j u hu
                rwa [hs2] at this
              have HS4 : Hid ((((wr.setCell ⟨gn, p, none⟩ (.int .i64 0)).setCell ⟨go, p, none⟩ (.bool true)).alloc (.cells #[.int .i64 (p : Int)] 3)).heap.size = wr.heap.size + 1) := by show _ = _; rw [World.size_alloc, hs2]
              have HB0 : Hid (B0 ≤ (((wr.setCell ⟨gn, p, none⟩ (.int .i64 0)).setCell ⟨go, p, none⟩ (.bool true)).alloc (.cells #[.int .i64 (p : Int)] 3)).heap.size) := D4.out.l6
              obtain ⟨i0, hio, hz0, hz1, hz2⟩ := info_parts Try.infoI3
              clear hs2 D2 D3
              go_wp2_with (at_builtin; refine wpList_append_lies _ rfl _ _ 23 rfl B0 3 i0 (.int .i64 0) 1 8 Try.underlying23 hio hz0 hz1 hz2 rfl (by decide) (.slice a m ca) m (nvals row) rfl hO.out ⟨wr.heap.size, 0, none⟩ 1 1 [.int .i64 (p : Int)] rfl rfl hN4.out (by intro u hu; simp at hu; subst hu; rfl) (by omega) (by unfold maxLen; omega) (by omega) HB0.out (wr.heap.size + 1) HS4.out ?_; intro g3 cap w3 ho3 hg3 hat3 _)
              have D5 : Hid (DrAt B n B0 go co gn w w3 (some ⟨g3, 0, none⟩) (m + 1) cap (row ++ [p]) (fun q => if q = p then true else out q) nd1 M') := D4.out.push HM.out ho3 hg3 hat3 HS4.out
              have D6 : Hid (DrAt B n B0 go co gn w (w3.setCell ⟨B.bm, p, none⟩ (.int .i64 (x : Int))) (some ⟨g3, 0, none⟩) (m + 1) cap (row ++ [p]) (fun q => if q = p then true else out q) nd1 (fun q => if q = p then (x : Int) else M' q)) := D5.out.putMove hpn (by simp) (fun q hq => by simp [hq])
              have HX6 : Hid ((row ++ [p])[k]? = some x) := by
                show _ = _
                rw [List.getElem?_append_left (by rw [← HM.out]; exact hkm)]; exact HX.out
              have s4 := (HTm.out w3 D5.out.turn).move
              rw [HN.out] at s4
              obtain ⟨br3, hbr3, r3⟩ := D5.out.rowC (k := k) (by simp; have := HM.out; omega)
              have : (row ++ [p]).getD k 0 = x := by simp only [List.getD, HX6.out]; rfl
              rw [this] at r3
              cases hbr3
              have m3 := D5.out.mov.cell hpn
              have mf3 := D5.out.mov.frozen p
              have hkm1 : (k : Int) < (m : Int) + 1 := by omega
              clear ho3 hg3 hat3 this D4 D5 hO hN4 HS4 HB0
              go_wp2_with fail
              go_region
              all_goals
                go_wp2_with fail
                go_roundw
                case rel => exact ⟨t + 1, m + 1, _, cap, row ++ [p], _, nd1, _, rfl, by go_num, by omega, by rw [List.length_append, ← HM.out]; rfl, by omega, HX6.out, D6.out.kept (grown_drew (grown_refl _ _)), Q2.out⟩
                case measure => simp [intOf]; omega
          · have cd := cd1 (z - 1) rfl
            have co' := co1 (z - 1) rfl
            have hz0 : (z - 1 == 0) = false := by simp; omega
            have D2 : Hid _ := D1.out (z - 1) rfl
            have Q2 : Hid _ := QS.out (.inl (by omega))
            clear cd1 co1 fo1 D1 QS QP
            go_wp2_with fail
            go_roundw
            case rel => exact ⟨t + 1, m, a, ca, row, out, nd1, M', rfl, by go_num, by omega, HM.out, hkm, HX.out, D2.out, Q2.out⟩
            case measure => simp [intOf]; omega
        · have hti : ¬ (t : Int) < (ln : Int) := by omega
          have Q2 : Hid (Que G i goal part M (k + 1) [] row out nd M') := by
            have q1 := Q.out
            rw [List.take_of_length_le (by rw [HLl.out]; omega)] at q1
            exact q1.next (by intro q hq; exact GD.out.nodup q hq) HX.out (fun p hp => by rw [HFm.out p, ← HN.out]; exact ⟨fun e => e.2, fun e => ⟨hp, e⟩⟩)
          have hkn : k < n := by omega
          go_wp2_with fail
          go_roundw
          case rel => exact ⟨k + 1, m, a, ca, row, out, nd, M', rfl, by go_num, HM.out, D.out, Q2.out⟩
          case measure => simp [intOf]; omega
    · have hki : ¬ (k : Int) < (m : Int) := by omega
      have hkm : k = row.length := by have := Q.out.len; have := HM.out; omega
      obtain ⟨ρ, hρ⟩ : ∃ ρ, Drawn G i goal part out M M' ρ := (show Que G i goal part M row.length [] row out nd M' from hkm ▸ Q.out).done SU.out
      have HR : Hid (Drawn G i goal part out M M' ρ) := hρ
      clear hρ hkm
      go_wp2_with fail
      rw [HPo.out]
      exact ⟨go, co, out, M', ρ, by rw [HN.out], by rw [HN.out]; exact D.out.outs, hb2, by rw [HN.out]; exact D.out.mov, HR.out, D.out.turn⟩

end Go.Proofs.Ytnlkdihfoekjmaa
