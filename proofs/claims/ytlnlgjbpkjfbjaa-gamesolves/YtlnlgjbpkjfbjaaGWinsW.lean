/- The reference's Wins: its walk. -/
import Derived.Test.YtlnlgjbpkjfbjaaGWins
namespace Go.Proofs.Ytlnlgjbpkjfbjaa
open Go.RowKit
set_option linter.unusedVariables false

theorem box2_new (w : World) (v0 v1 : Value) (t : TypeId) : ∃ W, W = w.alloc (.cells #[v0, v1] t) ∧ w.grownBy W none ∧ W.heap.size = w.heap.size + 1 ∧ ∀ W', W.grownBy W' none → W'.cell? ⟨w.heap.size, 0, none⟩ = some v0 ∧ W'.cell? ⟨w.heap.size, 1, none⟩ = some v1 := by
  refine ⟨_, rfl, grown_alloc _ _, by simp, fun W' h => ?_⟩
  have hb := heap_alloc_new w (.cells #[v0, v1] t)
  have hc : ∀ k v, #[v0, v1][k]? = some v → W'.cell? ⟨w.heap.size, k, none⟩ = some v := fun k v hv => h.cell (by rw [cell_of_row _ _ k _ _ (0, 0) hb]; exact hv) (by simp)
  exact ⟨hc 0 _ rfl, hc 1 _ rfl⟩
theorem mem_take_succ {l : List Nat} {k : Nat} (h : k < l.length) (x : Nat) : (x ∈ l.take (k + 1)) ↔ (x ∈ l.take k ∨ l.getD k 0 = x) := by
  rw [take_get h]; simp [eq_comm]

set_option maxHeartbeats 6400000 in
set_option maxRecDepth 100000 in
theorem wins_any (G : Gm) (B : Box) (bw bm : Nat) (W M : Nat → Int) (i : Int) (w : World) (hG : GoodG G) (h : GmAt w G B) (hW : IRow w bw G.n G.n W) (hM : IRow w bm G.n G.n (dropF G W M)) (hS : Solved G (fun p => decide (p < G.n)) W M) :
    Calls Try.prog 14 #[.agg #[u0B B G.n, u1B B G.n, u2B B G.n], .agg #[.slice (some ⟨bw, 0, none⟩) G.n G.n, .slice (some ⟨bm, 0, none⟩) G.n G.n], .int .i64 i] w (Says (.bool true) w) := by
  have hn := hG.n60
  have hn1 := hG.n1
  have GD : Hid (GoodG G) := hG
  have H : Hid (GmAt w G B) := h
  have HS : Hid (Solved G (fun p => decide (p < G.n)) W M) := hS
  have HWr : Hid (∀ W', w.grownBy W' none → IRow W' bw G.n G.n W) := fun W' hW' => hW.kept hW'
  have HMr : Hid (∀ W', w.grownBy W' none → IRow W' bm G.n G.n (dropF G W M)) := fun W' hW' => hM.kept hW'
  obtain ⟨n, hnn⟩ : ∃ n, G.n = n := ⟨_, rfl⟩
  have HN : Hid (G.n = n) := hnn
  rw [hnn] at hn hn1 HWr HMr ⊢
  obtain ⟨W1, hW1, g1, s1, bx1⟩ := box3_new w (u0B B n) (u1B B n) (u2B B n) 33
  obtain ⟨W2, hW2, g2, s2, bx2⟩ := box2_new W1 (.slice (some ⟨bw, 0, none⟩) n n) (.slice (some ⟨bm, 0, none⟩) n n) 37
  rw [s1] at bx2
  obtain ⟨W3, hmk3, r3, g3, s3⟩ := bools40 W2 n (by omega)
  have BXG : Hid (∀ W', W2.grownBy W' none → W'.cell? ⟨w.heap.size, 0, none⟩ = some (u0B B n) ∧ W'.cell? ⟨w.heap.size, 1, none⟩ = some (u1B B n) ∧ W'.cell? ⟨w.heap.size, 2, none⟩ = some (u2B B n)) := fun W' h => bx1 W' (grown_trans g2 h)
  have BXW : Hid (∀ W', W2.grownBy W' none → W'.cell? ⟨w.heap.size + 1, 0, none⟩ = some (.slice (some ⟨bw, 0, none⟩) n n) ∧ W'.cell? ⟨w.heap.size + 1, 1, none⟩ = some (.slice (some ⟨bm, 0, none⟩) n n)) := bx2
  have G2 : Hid (w.grownBy W2 none) := grown_trans g1 g2
  obtain ⟨x0, _, _⟩ := BXG.out W2 (grown_refl _ _)
  have WA : Hid (WnAt G B W M i W3.heap.size W2.heap.size 0 W2 W3 none 0 [] []) := ⟨⟨(Owns.no _ _).empty _, rfl, g3, fun q hq => by omega, by omega, Nat.le_refl _, Nat.le_refl _⟩, by rw [HN.out]; exact r3.congr (fun q hq => by simp)⟩
  have e12 : W2 = (w.alloc (.cells #[u0B B n, u1B B n, u2B B n] 33)).alloc (.cells #[.slice (some ⟨bw, 0, none⟩) n n, .slice (some ⟨bm, 0, none⟩) n n] 37) := by rw [hW2, hW1]
  have hs2 : W2.heap.size = w.heap.size + 1 + 1 := by rw [s2, s1]
  have HE : Hid (W2 = _) := e12
  have HS2 : Hid (W2.heap.size = w.heap.size + 1 + 1) := hs2
  rw [e12] at hmk3 x0
  clear hG h hW hM hS hnn hW1 hW2 g1 g2 s1 s2 bx1 bx2 r3 g3 s3 e12 hs2
  go_enter Try.func14, Try.ntmps14
  go_wp2_with fail
  clear hmk3 x0
  obtain ⟨gi, hgi⟩ : ∃ gi, W2.heap.size = gi := ⟨_, rfl⟩
  have HGi : Hid (w.heap.size + 1 + 1 = gi) := by show _ = _; rw [← HS2.out]; exact hgi
  rw [hgi] at WA
  rw [HGi.out]
  obtain ⟨B0, hB0⟩ : ∃ B0, W3.heap.size = B0 := ⟨_, rfl⟩
  rw [hB0] at WA
  clear hgi hB0 HS2 HE
  go_loopw [9, 10] (fun u v wr => ∃ (p : Nat) (a : Option Addr) (ca : Nat) (vs : List Value) (news : List Item), p ≤ n ∧ u = .slice a p ca ∧ v = .int .i64 p ∧ WnAt G B W M i B0 gi p W2 wr a ca vs news) (fun _ v _ => n - (intOf v).toNat)
  case atStart => exact ⟨0, none, 0, [], [], by omega, rfl, rfl, WA.out⟩
  case round =>
    clear WA
    obtain ⟨p, a, ca, vs, news, hp, rfl, rfl, hwa⟩ := hrel
    have WA : Hid (WnAt G B W M i B0 gi p W2 wr a ca vs news) := hwa
    clear hwa
    obtain ⟨x0, x1, x2⟩ := BXG.out wr WA.out.c.gr
    obtain ⟨y0, y1⟩ := BXW.out wr WA.out.c.gr
    by_cases hpn : p < n
    · have hpi : (p : Int) < (n : Int) := by omega
      have hpG : p < G.n := by rw [HN.out]; exact hpn
      have GW : Hid (w.grownBy wr none) := grown_trans G2.out WA.out.c.gr
      have c0 := (HWr.out wr GW.out).cell hpn
      have ci := WA.out.inn.cell hpG
      have fi := WA.out.inn.frozen p
      simp only [Nat.lt_irrefl, decide_false, Bool.false_and] at ci
      have hio := (H.out.grown GW.out).own p hpG
      obtain ⟨hnx, _⟩ := (H.out.grown GW.out).nx p hpG
      obtain ⟨Wi, hWi⟩ : ∃ bi, decide (W p = i) = bi := ⟨_, rfl⟩
      have HWi : Hid (decide (W p = i) = Wi) := hWi
      have hWb : (W p == i) = Wi := by rw [← hWi]; rfl
      -- in[p] is written
      have I1 : Hid (BRow (wr.setCell ⟨gi, p, none⟩ (.bool Wi)) gi G.n G.n (fun q => decide (q < p + 1) && decide (W q = i))) := WA.out.inn.put hpG (by simp [HWi.out]) (fun j hj => by
        have : decide (j < p + 1) = decide (j < p) := by simp; omega
        rw [this])
      have C1 : Hid (WnC G B W M i B0 gi p W2 (wr.setCell ⟨gi, p, none⟩ (.bool Wi)) a ca vs news) := WA.out.c.set p _
      obtain ⟨op, hop⟩ : ∃ op, G.own p = op := ⟨_, rfl⟩
      obtain ⟨wp, hwp⟩ : ∃ wp, W p = wp := ⟨_, rfl⟩
      have HOW : Hid (G.own p = op ∧ W p = wp) := ⟨hop, hwp⟩
      rw [hop] at hio
      rw [hwp] at c0 hWb
      obtain ⟨Wp, hWp⟩ : ∃ Wp, Wp = wr.setCell ⟨gi, p, none⟩ (.bool Wi) := ⟨_, rfl⟩
      have HWp : Hid (Wp = wr.setCell ⟨gi, p, none⟩ (.bool Wi)) := hWp
      rw [← hWp] at I1 C1
      -- what is read behind it
      have GW2 : Hid (w.grownBy Wp none) := grown_trans G2.out C1.out.gr
      obtain ⟨z0, z1, z2⟩ := BXG.out Wp C1.out.gr
      obtain ⟨v0, v1⟩ := BXW.out Wp C1.out.gr
      have hio2 := (H.out.grown GW2.out).own p hpG
      obtain ⟨hnx2, _⟩ := (H.out.grown GW2.out).nx p hpG
      rw [hop] at hio2
      have cp := I1.out.cell hpG
      have ecp : (decide (p < p + 1) && decide (W p = i)) = Wi := by rw [HWi.out]; simp
      simp only [ecp] at cp
      obtain ⟨i0, hio0, hz0, hz1, hz2⟩ := info_parts Try.infoS22
      have HL60 : Hid ((G.nx p).length ≤ 60) := by
        show _ ≤ _
        have := List.Nodup.length_le_of_subset (GD.out.nodup p hpG) (l₂ := List.range G.n) (fun q hq => List.mem_range.2 (GD.out.lt p hpG q hq))
        rw [List.length_range, HN.out] at this
        omega
      rw [hWp] at z0 z1 z2 v0 v1 hio2 hnx2 cp
      clear hop hwp hWp ecp
      by_cases hA : op = i ∧ wp = i
      · obtain ⟨e1, e2⟩ := hA
        have e1' : (op == i) = true := by simpa using e1
        have hWt : Wi = true := by rw [← hWb]; simpa using e2
        subst hWt
        obtain ⟨q0, hq0, hmq, hq0n, _⟩ := win_mine HS.out hpG (HOW.out.1.trans e1) (HOW.out.2.trans e2)
        have HQ0 : Hid (q0 ∈ G.nx p) := hq0
        have HNx : Hid (nxW G W M i p = [q0]) := by
          show _ = _
          unfold nxW
          rw [HOW.out.1, HOW.out.2, if_pos ⟨e1, e2⟩, hmq]
          simp
        have HMv : Hid (∀ W', w.grownBy W' none → W'.cell? ⟨bm, p, none⟩ = some (.int .i64 (q0 : Int))) := fun W' hW' => by
          have := (HMr.out W' hW').cell hpn
          rw [this]
          simp [dropF, HOW.out.1, HOW.out.2, e1, e2, hmq]
        have HXN : Hid (∀ W', w.grownBy W' none → NatsAt W' (B.xa p) (G.nx p)) := fun W' hW' => ((H.out.grown hW').nx p hpG).2
        obtain ⟨l, hl⟩ : ∃ l, G.nx p = l := ⟨_, rfl⟩
        rw [hl] at hnx hnx2 HQ0 HXN HL60
        obtain ⟨ln, hln⟩ : ∃ ln, l.length = ln := ⟨_, rfl⟩
        have HLl : Hid (l.length = ln) := hln
        have hl60 : ln ≤ 60 := by have := HL60.out; omega
        rw [hln] at hnx hnx2
        generalize B.xa p = xa at *
        generalize B.xd p = xd at *
        clear hl hln e1 e2 hq0 hmq
        go_wp2_with fail
        rw [← HWp.out]
        clear x0 x1 x2 y0 y1 c0 ci fi hio hnx z0 z1 z2 v0 v1 hio2 hnx2 cp e1' hWb
        go_loopw [12, 13] (fun u v wr => ∃ t : Nat, t ≤ ln ∧ v = .int .i64 t ∧ u = .bool (decide (q0 ∈ l.take t)) ∧ Wp.grownBy wr none) (fun _ v _ => ln - (intOf v).toNat)
        case atStart => exact ⟨0, by omega, rfl, by simp, grown_refl _ _⟩
        case round =>
          obtain ⟨t, ht, rfl, rfl, hg⟩ := hrel
          rename World => wt
          have GT : Hid (Wp.grownBy wt none) := hg
          clear hg
          have GTw : Hid (w.grownBy wt none) := grown_trans GW2.out GT.out
          obtain ⟨v0, v1⟩ := BXW.out wt (grown_trans C1.out.gr GT.out)
          have mv := HMv.out wt GTw.out
          by_cases htl : t < ln
          · have hti : (t : Int) < (ln : Int) := by omega
            have htl' : t < l.length := by rw [HLl.out]; exact htl
            obtain ⟨b5, o5, rfl, hc5⟩ := (HXN.out wt GTw.out).at htl'
            have h5 := hc5 t htl'
            have HT : Hid (∀ x, (x ∈ l.take (t + 1)) ↔ (x ∈ l.take t ∨ l.getD t 0 = x)) := mem_take_succ htl'
            obtain ⟨y, hy⟩ : ∃ y, l.getD t 0 = y := ⟨_, rfl⟩
            rw [hy] at h5 HT
            clear hc5 hy
            by_cases hin : q0 ∈ l.take t
            · have hb : decide (q0 ∈ l.take t) = true := by simpa using hin
              have HB : Hid (decide (q0 ∈ l.take (t + 1)) = true) := by show _ = _; rw [decide_eq_true_eq, HT.out]; exact .inl hin
              rw [hb]
              clear hb hin
              go_wp2_with fail
              go_quiet (fail)
              go_wp2_with fail
              go_roundw
              case rel => exact ⟨t + 1, by omega, by go_num, by rw [HB.out], grown_drewN GT.out _⟩
              case measure => simp [intOf]; omega
            · have hb : decide (q0 ∈ l.take t) = false := by simpa using hin
              obtain ⟨b2, hb2⟩ : ∃ b2, ((y : Int) == (q0 : Int)) = b2 := ⟨_, rfl⟩
              have HB : Hid (decide (q0 ∈ l.take (t + 1)) = b2) := by
                show _ = _
                rw [← hb2]
                by_cases e : y = q0
                · subst e; simp [HT.out]
                · have : q0 ∉ l.take (t + 1) := by rw [HT.out]; exact fun h => h.elim hin e
                  rw [decide_eq_false this, eq_comm, beq_eq_false_iff_ne]; omega
              rw [hb]
              clear hb hin
              go_wp2_with fail
              go_quiet (fail)
              go_wp2_with fail
              go_roundw
              case rel => exact ⟨t + 1, by omega, by go_num, by rw [HB.out], grown_drewN GT.out _⟩
              case measure => simp [intOf]; omega
          · have hti : ¬ (t : Int) < (ln : Int) := by omega
            have hb : decide (q0 ∈ l.take t) = true := by
              rw [List.take_of_length_le (by rw [HLl.out]; omega)]
              simpa using HQ0.out
            rw [hb]
            have C3 : Hid (WnC G B W M i B0 gi p W2 (wt.alloc (.cells #[.int .i64 (q0 : Int)] 3)) a ca vs ((3, .slice (some ⟨wt.heap.size, 0, none⟩) 1 1, nvals [q0]) :: news)) := (C1.out.kept GT.out).made q0
            have C4 : Hid (WnC G B W M i B0 gi p W2 ((wt.alloc (.cells #[.int .i64 (q0 : Int)] 3)).alloc (.cells #[.slice (some ⟨wt.heap.size, 0, none⟩) 1 1] 25)) a ca vs ((3, .slice (some ⟨wt.heap.size, 0, none⟩) 1 1, nvals [q0]) :: news)) := C3.out.kept (grown_alloc _ _)
            have I4 : Hid (BRow ((wt.alloc (.cells #[.int .i64 (q0 : Int)] 3)).alloc (.cells #[.slice (some ⟨wt.heap.size, 0, none⟩) 1 1] 25)) gi G.n G.n (fun q => decide (q < p + 1) && decide (W q = i))) := ((I1.out.kept GT.out).alloc _).alloc _
            have hO : Hid (((wt.alloc (.cells #[.int .i64 (q0 : Int)] 3)).alloc (.cells #[.slice (some ⟨wt.heap.size, 0, none⟩) 1 1] 25)).ownsRow B0 25 1 (.slice a p ca) p vs) := by
              have := C4.out.own.row
              rw [C4.out.len] at this
              exact this
            have HB3 : Hid (B0 ≤ ((wt.alloc (.cells #[.int .i64 (q0 : Int)] 3)).alloc (.cells #[.slice (some ⟨wt.heap.size, 0, none⟩) 1 1] 25)).heap.size) := C4.out.l3
            have HS4 : Hid (((wt.alloc (.cells #[.int .i64 (q0 : Int)] 3)).alloc (.cells #[.slice (some ⟨wt.heap.size, 0, none⟩) 1 1] 25)).heap.size = wt.heap.size + 1 + 1) := by show _ = _; simp
            have hN4 : Hid (∀ j u, [Value.slice (some ⟨wt.heap.size, 0, none⟩) 1 1][j]? = some u → ((wt.alloc (.cells #[.int .i64 (q0 : Int)] 3)).alloc (.cells #[.slice (some ⟨wt.heap.size, 0, none⟩) 1 1] 25)).cell? ((⟨wt.heap.size + 1, 0, none⟩ : Addr).add j) = some u) := fun j u hu => by
              have := cell_one_new (wt.alloc (.cells #[.int .i64 (q0 : Int)] 3)) (.slice (some ⟨wt.heap.size, 0, none⟩) 1 1) 25 j u hu
              rwa [World.size_alloc] at this
            clear hb C3
            go_wp2_with (at_builtin; refine wpList_append_lies _ rfl _ _ 31 rfl B0 25 i0 (.slice none 0 0) 1 24 Try.underlying31 hio0 hz0 hz1 hz2 rfl (by decide) (.slice a p ca) p vs rfl hO.out ⟨wt.heap.size + 1, 0, none⟩ 1 1 [.slice (some ⟨wt.heap.size, 0, none⟩) 1 1] rfl rfl hN4.out (by intro u hu; simp at hu; subst hu; rfl) (by omega) (by unfold maxLen; omega) (by omega) HB3.out (wt.heap.size + 1 + 1) HS4.out ?_; intro g3 cap w3 ho3 hg3 hat3 _)
            have D5 : Hid (WnAt G B W M i B0 gi (p + 1) W2 w3 (some ⟨g3, 0, none⟩) cap (vs ++ [.slice (some ⟨wt.heap.size, 0, none⟩) 1 1]) ((3, .slice (some ⟨wt.heap.size, 0, none⟩) 1 1, nvals [q0]) :: news)) := C4.out.push I4.out ho3 hg3 hat3 HS4.out (.inr (by rw [HNx.out]; simp))
            clear ho3 hg3 hat3
            go_roundw
            case rel => exact ⟨p + 1, _, cap, _, _, by omega, rfl, by go_num, D5.out⟩
            case measure => simp [intOf]; omega
      · -- the game's own row
        have HNx : Hid (nxW G W M i p = G.nx p) := by
          show _ = _
          unfold nxW
          rw [HOW.out.1, HOW.out.2, if_neg hA]
        obtain ⟨ln, hln⟩ : ∃ ln, (G.nx p).length = ln := ⟨_, rfl⟩
        have HLl : Hid ((G.nx p).length = ln) := hln
        have hl60 : ln ≤ 60 := by have := HL60.out; omega
        rw [hln] at hnx hnx2
        have hO : Hid ((Wp.alloc (.cells #[.slice (B.xa p) ln (B.xd p)] 25)).ownsRow B0 25 1 (.slice a p ca) p vs) := by
          have := (C1.out.kept (grown_alloc Wp (.cells #[.slice (B.xa p) ln (B.xd p)] 25))).own.row
          rw [C1.out.len] at this
          exact this
        have HB3 : Hid (B0 ≤ (Wp.alloc (.cells #[.slice (B.xa p) ln (B.xd p)] 25)).heap.size) := (C1.out.kept (grown_alloc Wp (.cells #[.slice (B.xa p) ln (B.xd p)] 25))).l3
        have HS4 : Hid ((Wp.alloc (.cells #[.slice (B.xa p) ln (B.xd p)] 25)).heap.size = wr.heap.size + 1) := by show _ = _; rw [World.size_alloc, HWp.out]; simp [World.setCell]
        have hN4 : Hid (∀ j u, [Value.slice (B.xa p) ln (B.xd p)][j]? = some u → (Wp.alloc (.cells #[.slice (B.xa p) ln (B.xd p)] 25)).cell? ((⟨wr.heap.size, 0, none⟩ : Addr).add j) = some u) := fun j u hu => by
          have := cell_one_new Wp (.slice (B.xa p) ln (B.xd p)) 25 j u hu
          have e : Wp.heap.size = wr.heap.size := by rw [HWp.out]; simp [World.setCell]
          rwa [e] at this
        have C2 : Hid (WnC G B W M i B0 gi p W2 (Wp.alloc (.cells #[.slice (B.xa p) ln (B.xd p)] 25)) a ca vs news) := C1.out.kept (grown_alloc _ _)
        have I2 : Hid (BRow (Wp.alloc (.cells #[.slice (B.xa p) ln (B.xd p)] 25)) gi G.n G.n (fun q => decide (q < p + 1) && decide (W q = i))) := I1.out.alloc _
        have hcase : (op == i) = false ∨ ((op == i) = true ∧ Wi = false) := by
          by_cases e1 : op = i
          · right
            refine ⟨by simpa using e1, ?_⟩
            rw [← hWb]
            simp only [beq_eq_false_iff_ne]
            exact fun e => hA ⟨e1, e⟩
          · left; simpa using e1
        rw [HWp.out] at hO HB3 HS4 hN4 C2 I2
        clear hln hA
        rcases hcase with e1 | ⟨e1, e2⟩
        · go_wp2_with (at_builtin; refine wpList_append_lies _ rfl _ _ 31 rfl B0 25 i0 (.slice none 0 0) 1 24 Try.underlying31 hio0 hz0 hz1 hz2 rfl (by decide) (.slice a p ca) p vs rfl hO.out ⟨wr.heap.size, 0, none⟩ 1 1 [.slice (B.xa p) ln (B.xd p)] rfl rfl hN4.out (by intro u hu; simp at hu; subst hu; rfl) (by omega) (by unfold maxLen; omega) (by omega) HB3.out (wr.heap.size + 1) HS4.out ?_; intro g3 cap w3 ho3 hg3 hat3 _)
          have D5 : Hid (WnAt G B W M i B0 gi (p + 1) W2 w3 (some ⟨g3, 0, none⟩) cap (vs ++ [.slice (B.xa p) ln (B.xd p)]) news) := C2.out.push I2.out ho3 hg3 hat3 HS4.out (.inl ⟨by rw [HLl.out], HNx.out⟩)
          clear ho3 hg3 hat3
          go_roundw
          case rel => exact ⟨p + 1, _, cap, _, _, by omega, rfl, by go_num, D5.out⟩
          case measure => simp [intOf]; omega
        · subst e2
          go_wp2_with (at_builtin; refine wpList_append_lies _ rfl _ _ 31 rfl B0 25 i0 (.slice none 0 0) 1 24 Try.underlying31 hio0 hz0 hz1 hz2 rfl (by decide) (.slice a p ca) p vs rfl hO.out ⟨wr.heap.size, 0, none⟩ 1 1 [.slice (B.xa p) ln (B.xd p)] rfl rfl hN4.out (by intro u hu; simp at hu; subst hu; rfl) (by omega) (by unfold maxLen; omega) (by omega) HB3.out (wr.heap.size + 1) HS4.out ?_; intro g3 cap w3 ho3 hg3 hat3 _)
          have D5 : Hid (WnAt G B W M i B0 gi (p + 1) W2 w3 (some ⟨g3, 0, none⟩) cap (vs ++ [.slice (B.xa p) ln (B.xd p)]) news) := C2.out.push I2.out ho3 hg3 hat3 HS4.out (.inl ⟨by rw [HLl.out], HNx.out⟩)
          clear ho3 hg3 hat3
          go_roundw
          case rel => exact ⟨p + 1, _, cap, _, _, by omega, rfl, by go_num, D5.out⟩
          case measure => simp [intOf]; omega
    · have hpe : n = p := by omega
      subst hpe
      have WA' : WnAt G B W M i B0 gi G.n W2 wr a ca vs news := by rw [HN.out]; exact WA.out
      obtain ⟨bx, xa, xd, rfl, hodd⟩ := WA'.odd (H.out.grown G2.out) (by rw [HN.out]; exact hn1)
      rw [HN.out] at hodd
      have OD : Hid (∀ W', wr.grownBy W' none → OddAt n G.mark (nxW G W M i) (innW G W i) B.mb B.mo bx 0 gi xa xd W') := fun W' hW' => hodd.grown hW'
      have GA : Hid (W2.grownBy wr none) := WA.out.c.gr
      clear WA' hodd WA x0 x1 x2 y0 y1 hpn hp
      have hpi : ¬ (n : Int) < (n : Int) := by omega
      go_wp2_with fail
      obtain ⟨wb, hwb⟩ : ∃ wb, wr = wb := ⟨_, rfl⟩
      rw [hwb] at OD GA ⊢
      clear hwb
      go_loopw [14] (fun v wr => ∃ p : Nat, p ≤ n ∧ v = .int .i64 p ∧ wb.grownBy wr none) (fun v _ => n - (intOf v).toNat)
      case atStart => exact ⟨0, by omega, rfl, grown_refl _ _⟩
      case round =>
        obtain ⟨p, hp, rfl, hg⟩ := hrel
        rename World => wc
        have GC : Hid (wb.grownBy wc none) := hg
        clear hg
        by_cases hpn : p < n
        · have hpi2 : (p : Int) < (n : Int) := by omega
          have hpG : p < G.n := by rw [HN.out]; exact hpn
          obtain ⟨ln, hln⟩ : ∃ ln, (nxW G W M i p).length = ln := ⟨_, rfl⟩
          have HLn : Hid ((nxW G W M i p).length = ln) := hln
          have hl60 : ln ≤ 60 := by rw [← hln]; exact nxW_len GD.out hpG
          clear hln
          go_wp2_with fail
          go_loopw [15] (fun v wr => ∃ t : Nat, t ≤ ln ∧ v = .int .i64 t ∧ wb.grownBy wr none) (fun v _ => ln - (intOf v).toNat)
          case atStart => exact ⟨0, by omega, rfl, GC.out⟩
          case round =>
            clear GC
            obtain ⟨t, ht, rfl, hg⟩ := hrel
            rename World => wd
            have GC : Hid (wb.grownBy wd none) := hg
            clear hg
            have GWd : Hid (w.grownBy wd none) := grown_trans (grown_trans G2.out GA.out) GC.out
            obtain ⟨x0, x1, x2⟩ := BXG.out wd (grown_trans GA.out GC.out)
            obtain ⟨y0, y1⟩ := BXW.out wd (grown_trans GA.out GC.out)
            obtain ⟨cn, hnat⟩ := (OD.out wd GC.out).next p hpn
            rw [Nat.zero_add, HLn.out] at cn
            have ci := (OD.out wd GC.out).inn.cell hpn
            by_cases htl : t < ln
            · have hti : (t : Int) < (ln : Int) := by omega
              have htl' : t < (nxW G W M i p).length := by rw [HLn.out]; exact htl
              obtain ⟨b5, o5, hxa, hc5⟩ := hnat.at htl'
              have h5 := hc5 t htl'
              have hqm := getD_mem htl'
              obtain ⟨q, hq⟩ : ∃ q, (nxW G W M i p).getD t 0 = q := ⟨_, rfl⟩
              rw [hq] at h5 hqm
              rw [hxa] at cn
              have hqG := win_lt GD.out HS.out hpG hqm
              have hqn : q < n := by rw [← HN.out]; exact hqG
              have hqi : (q : Int) < (n : Int) := by omega
              have cw := (HWr.out wd GWd.out).cell hqn
              cases hin : innW G W i p with
              | false =>
                rw [hin] at ci
                clear hc5 hq hqm hxa hin hnat
                go_wp2_with fail
                go_quiet (fail)
                go_wp2_with fail
                go_roundw
                case rel => exact ⟨t + 1, by omega, by go_num, grown_drewN GC.out _⟩
                case measure => simp [intOf]; omega
              | true =>
                rw [hin] at ci
                have hwp : W p = i := by simp [innW] at hin; exact hin.2
                have hwq := (win_next GD.out HS.out hpG hwp hqm).2
                rw [hwq] at cw
                have hii : (i != i) = false := by simp
                clear hc5 hq hqm hxa hin hnat hwp hwq
                go_wp2_with fail
                go_quiet (fail)
                go_wp2_with fail
                go_roundw
                case rel => exact ⟨t + 1, by omega, by go_num, grown_drewN GC.out _⟩
                case measure => simp [intOf]; omega
            · have hti : ¬ (t : Int) < (ln : Int) := by omega
              have co := (H.out.grown GWd.out).own p hpG
              have cw := (HWr.out wd GWd.out).cell hpn
              have cm := (HMr.out wd GWd.out).cell hpn
              have hin : innW G W i p = decide (W p = i) := by simp [innW, hpG]
              rw [hin] at ci
              clear hnat hin
              unfold dropF at cm
              obtain ⟨op, hop⟩ : ∃ op, G.own p = op := ⟨_, rfl⟩
              obtain ⟨wp, hwp⟩ : ∃ wp, W p = wp := ⟨_, rfl⟩
              obtain ⟨mp, hmp⟩ : ∃ mp, M p = mp := ⟨_, rfl⟩
              rw [hop] at co
              rw [hwp] at cw ci
              simp only [hop, hwp, hmp] at cm
              clear hop hwp hmp
              by_cases e1 : op = i
              · have e1' : (op != i) = false := by simpa using e1
                by_cases e2 : wp = i
                · have e2' : decide (wp = i) = true := by simpa using e2
                  rw [e2'] at ci
                  clear e2' cm
                  go_wp2_with fail
                  go_quiet (fail)
                  go_wp2_with fail
                  go_roundw
                  case rel => exact ⟨p + 1, by omega, by go_num, grown_drewN GC.out _⟩
                  case measure => simp [intOf]; omega
                · have e2' : decide (wp = i) = false := by simpa using e2
                  have e3 : (op != wp) = true := by simp; omega
                  have e4 : op ≠ wp := by omega
                  rw [e2'] at ci
                  rw [if_pos e4] at cm
                  clear e2' e4 e1 e2
                  go_wp2_with fail
                  go_quiet (fail)
                  go_wp2_with fail
                  go_roundw
                  case rel => exact ⟨p + 1, by omega, by go_num, grown_drewN GC.out _⟩
                  case measure => simp [intOf]; omega
              · have e1' : (op != i) = true := by simpa using e1
                obtain ⟨bi, hbi⟩ : ∃ bi, decide (wp = i) = bi := ⟨_, rfl⟩
                rw [hbi] at ci
                clear hbi
                by_cases e2 : op = wp
                · have e2' : (op != wp) = false := by simpa using e2
                  clear cm e2
                  go_wp2_with fail
                  go_quiet (fail)
                  go_wp2_with fail
                  go_roundw
                  case rel => exact ⟨p + 1, by omega, by go_num, grown_drewN GC.out _⟩
                  case measure => simp [intOf]; omega
                · have e2' : (op != wp) = true := by simpa using e2
                  rw [if_pos e2] at cm
                  go_wp2_with fail
                  go_quiet (fail)
                  go_wp2_with fail
                  go_roundw
                  case rel => exact ⟨p + 1, by omega, by go_num, grown_drewN GC.out _⟩
                  case measure => simp [intOf]; omega
        · have hpi2 : ¬ (p : Int) < (n : Int) := by omega
          obtain ⟨x0, x1, x2⟩ := BXG.out wc (grown_trans GA.out GC.out)
          have CO : Hid (Calls Try.prog 20 #[.slice (some ⟨B.mb, B.mo, none⟩) n B.mc, .slice (some ⟨bx, 0, none⟩) n ca, .slice (some ⟨gi, 0, none⟩) n n, .int .i64 i] wc (Says (.bool false) wc)) :=
            odd_any n G.mark (nxW G W M i) (innW G W i) B.mb B.mo B.mc bx 0 ca gi xa xd i wc (OD.out wc GC.out) hn (fun p hp => GD.out.mark p (by rw [HN.out]; exact hp)) (fun p hp q hq => by rw [← HN.out]; exact win_lt GD.out HS.out (by rw [HN.out]; exact hp) hq) (fun p hp => nxW_len GD.out (by rw [HN.out]; exact hp)) (fun p hp hi hm => win_no HS.out (by rw [HN.out]; exact hp) hi hm)
          go_wp2_with fail
          refine CO.out.mono ?_
          rintro E w5 ⟨rfl, hg5⟩
          have GF : Hid (w.grownBy w5 none) := grown_trans (grown_trans (grown_trans G2.out GA.out) GC.out) hg5
          clear hg5 CO x0 x1 x2
          go_wp2_with fail
          go_ret
          exact ⟨rfl, GF.out⟩

end Go.Proofs.Ytlnlgjbpkjfbjaa
