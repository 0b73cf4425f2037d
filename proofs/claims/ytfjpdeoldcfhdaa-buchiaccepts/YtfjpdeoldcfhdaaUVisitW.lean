/- visit, walked. -/
import Derived.Test.YtfjpdeoldcfhdaaUVisit
namespace Go.Proofs.Ytfjpdeoldcfhdaa
open Go.RowKit
set_option linter.unusedVariables false

set_option maxHeartbeats 6400000 in
set_option maxRecDepth 100000 in
theorem visit_any (B ps n l : Nat) (wd : List Nat) (turn gt : Nat) (T : List StepI) (aw : Option Addr) (cw : Nat) (as_ : Option Addr) (cs : Nat) (S : List Int) (gf gs gm N fs : Nat) (hT : InT T l n) (hTl : T.length ≤ 1000000) (hn : n ≤ 300) (hl : l ≤ 4) (hwl : wd.length ≤ 1000) (htl : turn < wd.length) (hN : N = wd.length * n) (hwd : ∀ k, k < wd.length → wd.getD k 0 < l) :
    ∀ (fuel Sn M a p : Nat) (G : Nat → Prop) (w : World), 2 ^ N - Sn ≤ fuel → a < wd.length → p < n → VInv (nxP T wd n turn) (accP n fs) N G Sn M → (∀ g, G g → ∃ k, goN (nxP T wd n turn) (k + 1) g (a * n + p)) → ¬ InS Sn (a * n + p) → SeAt B w ps n l wd turn gt T aw cw as_ cs S gf gs gm N fs Sn M →
    Calls Try.prog 66 #[.pointer (some ⟨ps, 0, none⟩), .int .i64 ((a * n + p : Nat) : Int)] w (VisitPost B ps n l wd turn gt T aw cw as_ cs S gf gs gm N fs Sn G (a * n + p) w) := by
  have HT : Hid (InT T l n) := hT
  have HTl : Hid (T.length ≤ 1000000) := hTl
  have HN : Hid (N = wd.length * n) := hN
  have HWD : Hid (∀ k, k < wd.length → wd.getD k 0 < l) := hwd
  have HL1 : Hid (wd.length ≤ 1000 ∧ turn < wd.length) := ⟨hwl, htl⟩
  clear hT hTl hN hwd hwl htl
  intro fuel
  induction fuel with
  | zero => intro Sn M a p G w h1 h2 h3 h4; have := h4.ltS; omega
  | succ fuel ih =>
    intro Sn M a p G w hf ha hp hV hG hnew hSe
    have IH : Hid (∀ (Sn M a p : Nat) (G : Nat → Prop) (w : World), 2 ^ N - Sn ≤ fuel → a < wd.length → p < n → VInv (nxP T wd n turn) (accP n fs) N G Sn M → (∀ g, G g → ∃ k, goN (nxP T wd n turn) (k + 1) g (a * n + p)) → ¬ InS Sn (a * n + p) → SeAt B w ps n l wd turn gt T aw cw as_ cs S gf gs gm N fs Sn M → Calls Try.prog 66 #[.pointer (some ⟨ps, 0, none⟩), .int .i64 ((a * n + p : Nat) : Int)] w (VisitPost B ps n l wd turn gt T aw cw as_ cs S gf gs gm N fs Sn G (a * n + p) w)) := ih
    have SE : Hid (SeAt B w ps n l wd turn gt T aw cw as_ cs S gf gs gm N fs Sn M) := hSe
    have HNx : Hid (∀ W, StaAt W ps n l wd turn gt T aw cw as_ cs S gf gs gm N → Calls Try.prog 83 #[.pointer (some ⟨ps, 0, none⟩), .int .i64 ((a * n + p : Nat) : Int)] W (NextPost T l n wd turn a p W)) := fun W h => next_any h hn hl a p ha HL1.out.1 HL1.out.2 hp (HWD.out a ha)
    have HNXP : Hid (nxP T wd n turn (a * n + p) = (toL T l (p * l + wd.getD a 0)).map fun q => nextAt wd.length turn a * n + q) := nxP_toL HT.out hp (HWD.out a ha)
    have hna : nextAt wd.length turn a < wd.length := by unfold nextAt; have := HL1.out.2; split <;> omega
    have hrow : ∀ q, q ∈ toL T l (p * l + wd.getD a 0) → q < n := fun q hq => by
      obtain ⟨t, h1, h2⟩ := List.mem_map.1 hq
      obtain ⟨i, hi, e⟩ := List.getElem_of_mem (List.mem_filter.1 h1).1
      have h3 := HT.out i hi
      simp only [List.getD, List.getElem?_eq_getElem hi, Option.getD_some] at h3
      rw [e] at h3
      obtain ⟨_, _, ⟨i5, i6⟩⟩ := h3
      omega
    have hml : (toL T l (p * l + wd.getD a 0)).length ≤ 1000000 := by unfold toL; rw [List.length_map]; exact Nat.le_trans (List.length_filter_le _ _) HTl.out
    have hvN : a * n + p < N := by
      have h1 : (a + 1) * n ≤ wd.length * n := Nat.mul_le_mul_right _ ha
      rw [Nat.succ_mul, ← HN.out] at h1
      omega
    have hNb : N ≤ 300000 := by rw [HN.out]; exact Nat.mul_le_mul HL1.out.1 hn
    have hvm0 : (a * n + p) % n = p := by rw [Nat.mul_comm, Nat.mul_add_mod, Nat.mod_eq_of_lt hp]
    have HLd : Hid (∀ (M : Nat) (Sn : Nat) (W : World), M < 2 ^ N → SeAt B W ps n l wd turn gt T aw cw as_ cs S gf gs gm N fs Sn M → Calls Try.prog 84 #[.pointer (some ⟨ps, 0, none⟩), .int .i64 ((a * n + p : Nat) : Int), .int .i64 ((a * n + p : Nat) : Int)] W (LeadsPost B ps n l wd turn gt T aw cw as_ cs S gf gs gm N fs Sn M (a * n + p) (a * n + p) W)) := fun M Sn W h1 h2 => leads_any B ps n l wd turn gt T aw cw as_ cs S gf gs gm N fs Sn (a * n + p) HT.out HTl.out hn hl HL1.out.1 HL1.out.2 HN.out HWD.out (by omega) (2 ^ N - M) M a p W (Nat.le_refl _) h1 ha hp h2
    obtain ⟨v, hv⟩ : ∃ v, a * n + p = v := ⟨_, rfl⟩
    rw [hv] at HNx HNXP hG hnew hvN hvm0 HLd
    rw [hv]
    have HV : Hid (VInv (nxP T wd n turn) (accP n fs) N G Sn M) := hV
    have HG : Hid (∀ g, G g → ∃ k, goN (nxP T wd n turn) (k + 1) g v) := hG
    have HNEW : Hid (¬ InS Sn v) := hnew
    have HNG : Hid (¬ G v) := fun g => hnew (hV.way v g)
    have HF : Hid (2 ^ N - Sn ≤ fuel + 1) := hf
    have hpn : p < n := hp
    obtain ⟨us, hus⟩ : ∃ us, toL T l (p * l + wd.getD a 0) = us := ⟨_, rfl⟩
    rw [hus] at HNXP hrow hml
    have HUS : Hid (toL T l (p * l + wd.getD a 0) = us) := hus
    obtain ⟨na, hnae⟩ : ∃ na, nextAt wd.length turn a = na := ⟨_, rfl⟩
    rw [hnae] at HNXP hna
    have HNA : Hid (nextAt wd.length turn a = na) := hnae
    obtain ⟨m, hm⟩ : ∃ m, us.length = m := ⟨_, rfl⟩
    have HMU : Hid (us.length = m) := hm
    rw [hm] at hml
    obtain ⟨z, hz⟩ : ∃ z, na * n = z := ⟨_, rfl⟩
    have HZ : Hid (na * n = z) := hz
    have HRow : Hid (∀ q, q ∈ us → q < n) := hrow
    have HNa : Hid (na < wd.length) := hna
    have hzb : z ≤ 300000 := by rw [← hz]; exact Nat.mul_le_mul (show na ≤ 1000 by have := HL1.out.1; omega) hn
    have hvmI : (v : Int) % (n : Int) = (p : Int) := by rw [← hvm0]; exact (Int.natCast_emod v n).symm
    have HVM : Hid ((v : Int) % (n : Int) = (p : Int)) := hvmI
    have HVA : Hid (accP n fs v = fs.testBit p) := by show _ = _; unfold accP; rw [hvm0]
    obtain ⟨x0, x1, hS1, hK1, hI1⟩ := SE.out.markS hvN
    have SA : Hid (SeAt B (w.setCell ⟨gs, v, none⟩ (.bool true)) ps n l wd turn gt T aw cw as_ cs S gf gs gm N fs (Sn ||| 2 ^ v) M) := hS1
    have KA : Hid (Keeps B w (w.setCell ⟨gs, v, none⟩ (.bool true))) := hK1
    have IA : Hid (∀ {a : Option Addr} {zs : List Int}, Ints w a zs → Ints (w.setCell ⟨gs, v, none⟩ (.bool true)) a zs) := hI1
    have VL0 : Hid (VLoop (nxP T wd n turn) (accP n fs) N G Sn v 0 (Sn ||| 2 ^ v) M) := VLoop.start hV hnew hvN
    have HLT : Hid (Sn < Sn ||| 2 ^ v) := inS_lt hvN hV.ltS (by cases h : Sn.testBit v with | true => exact absurd h hnew | false => rfl)
    have c7 := SE.out.sta.c7
    have hvi : (v : Int) < (N : Int) := by omega
    clear hf ih hSe hv hus hnae hm hz hrow hna ha hp hV hG hnew hS1 hK1 hI1 hvmI hvm0
    go_enter Try.func66, Try.ntmps66
    go_wp2_with fail
    clear x0 x1 c7
    refine (HNx.out _ SA.out.sta).mono ?_
    rintro E w2 ⟨ar, cr, rfl, hI2, hg2⟩
    rw [HUS.out] at hI2
    rw [HUS.out, HNA.out, HZ.out, HMU.out]
    have I2 : Hid (Ints w2 ar (natInts us)) := hI2
    have S2 : Hid (SeAt B w2 ps n l wd turn gt T aw cw as_ cs S gf gs gm N fs (Sn ||| 2 ^ v) M) := SA.out.grown hg2
    have K2 : Hid (Keeps B w w2) := KA.out.trans (Keeps.grown hg2)
    have J2 : Hid (∀ {a : Option Addr} {zs : List Int}, Ints w a zs → Ints w2 a zs) := fun h => (IA.out h).grown hg2
    clear hI2 hg2 HNx SA KA IA
    go_wp2_with fail
    go_loopw [23] (fun vk wr => ∃ k S' M' : Nat, k ≤ m ∧ vk = .int .i64 k ∧ SeAt B wr ps n l wd turn gt T aw cw as_ cs S gf gs gm N fs S' M' ∧ Keeps B w wr ∧ (∀ {a : Option Addr} {zs : List Int}, Ints w a zs → Ints wr a zs) ∧ Ints wr ar (natInts us) ∧ VLoop (nxP T wd n turn) (accP n fs) N G Sn v k S' M') (fun vk _ => m - (intOf vk).toNat)
    case atStart => exact ⟨0, _, M, by omega, rfl, S2.out, K2.out, J2.out, I2.out, VL0.out⟩
    case round =>
      clear S2 I2 K2 J2 VL0
      rename World => wr
      obtain ⟨k, S1, M1, hk, rfl, hS1, hK1, hI1, hU1, hL1⟩ := hrel
      have A1 : Hid (SeAt B wr ps n l wd turn gt T aw cw as_ cs S gf gs gm N fs S1 M1) := hS1
      have K1 : Hid (Keeps B w wr) := hK1
      have I1 : Hid (∀ {a : Option Addr} {zs : List Int}, Ints w a zs → Ints wr a zs) := hI1
      have U1 : Hid (Ints wr ar (natInts us)) := hU1
      have L1 : Hid (VLoop (nxP T wd n turn) (accP n fs) N G Sn v k S1 M1) := hL1
      clear hS1 hK1 hI1 hU1 hL1
      by_cases hlt : k < m
      · have hki : (k : Int) < (m : Int) := by omega
        have hku : k < us.length := by rw [HMU.out]; exact hlt
        obtain ⟨bu, ou, rfl, hc⟩ := U1.out.at (k := k) (by simpa [natInts] using hku)
        have y0 := hc k (by simpa [natInts] using hku)
        have ey : (natInts us).getD k 0 = ((us.getD k 0 : Nat) : Int) := by simp [natInts, List.getD, hku]
        rw [ey] at y0
        obtain ⟨u, hu⟩ : ∃ u, us.getD k 0 = u := ⟨_, rfl⟩
        rw [hu] at y0
        have hun : u < n := HRow.out u (by rw [← hu, List.getD, List.getElem?_eq_getElem hku]; exact List.getElem_mem _)
        have HQ : Hid ((nxP T wd n turn v)[k]? = some (z + u)) := by
          show _ = _
          rw [HNXP.out, HZ.out, List.getElem?_map, List.getElem?_eq_getElem hku, ← hu]
          simp [List.getD, hku]
        have hqN : z + u < N := by
          have h1 : (na + 1) * n ≤ wd.length * n := Nat.mul_le_mul_right _ HNa.out
          rw [Nat.succ_mul, HZ.out, ← HN.out] at h1
          omega
        obtain ⟨q, hq⟩ : ∃ q, z + u = q := ⟨_, rfl⟩
        rw [hq] at HQ hqN
        have HQE : Hid (z + u = q) := hq
        have ew : IntKind.i64.wrap ((z : Int) + (u : Int)) = (q : Int) := by rw [IntKind.wrap_i64]; omega
        obtain ⟨x0, _, _, _, _⟩ := A1.out.markS hqN
        have c7 := A1.out.sta.c7
        clear hc ey hu hku
        have hqi : (q : Int) < (N : Int) := by omega
        cases hbit : S1.testBit q with
        | true =>
          rw [hbit] at x0
          have L2 : Hid (VLoop (nxP T wd n turn) (accP n fs) N G Sn v (k + 1) S1 M1) := L1.out.skip HQ.out hbit
          clear hbit
          go_wp2_with fail
          go_roundw
          case rel => exact ⟨k + 1, S1, M1, by omega, by go_num, A1.out, K1.out, I1.out, U1.out, L2.out⟩
          case measure => simp [intOf]; omega
        | false =>
          rw [hbit] at x0
          have HQU : Hid (na * n + u = q) := by show _ = _; rw [HZ.out]; exact hq
          have hqv : goN (nxP T wd n turn) 1 v q := goN_one (List.mem_of_getElem? HQ.out)
          have CR : Hid (Calls Try.prog 66 #[.pointer (some ⟨ps, 0, none⟩), .int .i64 (q : Int)] wr (VisitPost B ps n l wd turn gt T aw cw as_ cs S gf gs gm N fs S1 (fun x => G x ∨ x = v) q wr)) := by
            have h1 := IH.out S1 M1 na u (fun x => G x ∨ x = v) wr (by have := HF.out; have := L1.out.le; have := HLT.out; omega) HNa.out hun L1.out.inv (fun g hg => by
              rw [HQU.out]
              rcases hg with hg | hg
              · obtain ⟨j, h2⟩ := HG.out g hg
                exact ⟨j + 1, goN_add h2 hqv⟩
              · subst hg; exact ⟨0, hqv⟩) (by rw [HQU.out, InS, hbit]; simp) A1.out
            rw [HQU.out] at h1
            exact h1
          have HQV : Hid (goN (nxP T wd n turn) 1 v q) := hqv
          clear hbit hqv
          go_wp2_with fail
          refine CR.out.mono ?_
          rintro E w7 ⟨r, S7, M7, rfl, hS7, hK7, hI7, hM7, ht7, hf7⟩
          cases r with
          | true =>
            have PT : Hid (VisitPost B ps n l wd turn gt T aw cw as_ cs S gf gs gm N fs Sn G v w (.returned (.bool true)) w7) := by
              obtain ⟨y, i, j, h1, h2, h3⟩ := ht7 rfl
              exact ⟨true, S7, M7, rfl, hS7, K1.out.trans hK7, fun h => hI7 (I1.out h), by have := L1.out.le; have := HLT.out; omega, fun _ => ⟨y, 1 + i, j, goN_add HQV.out h1, h2, h3⟩, fun e => by cases e⟩
            clear hS7 hK7 hI7 ht7 hf7
            go_wp2_with fail
            go_ret
            exact PT.out
          | false =>
            have PR : Hid (SeAt B w7 ps n l wd turn gt T aw cw as_ cs S gf gs gm N fs S7 M7 ∧ Keeps B w w7 ∧ (∀ {a : Option Addr} {zs : List Int}, Ints w a zs → Ints w7 a zs) ∧ Ints w7 (some ⟨bu, ou, none⟩) (natInts us) ∧ VLoop (nxP T wd n turn) (accP n fs) N G Sn v (k + 1) S7 M7) := by
              obtain ⟨h1, h2, h3⟩ := hf7 rfl
              exact ⟨hS7, K1.out.trans hK7, fun h => hI7 (I1.out h), hI7 U1.out, L1.out.go HQ.out h1 h2 hM7 h3⟩
            clear hS7 hK7 hI7 ht7 hf7
            go_wp2_with fail
            go_roundw
            case rel => exact ⟨k + 1, S7, M7, by omega, by go_num, PR.out.1, PR.out.2.1, PR.out.2.2.1, PR.out.2.2.2.1, PR.out.2.2.2.2⟩
            case measure => simp [intOf]; omega
      · have hki : ¬ (k : Int) < (m : Int) := by omega
        have LA : Hid (VLoop (nxP T wd n turn) (accP n fs) N G Sn v (nxP T wd n turn v).length S1 M1) := by
          have e : (nxP T wd n turn v).length = k := by rw [HNXP.out, List.length_map, HMU.out]; omega
          show VLoop _ _ _ _ _ _ _ _ _
          rw [e]; exact L1.out
        have x6 := A1.out.fin hpn
        have c6 := A1.out.sta.c6
        have c0 := A1.out.sta.c0
        have hpi : (p : Int) < (n : Int) := by omega
        have n0 : ((n : Int) == 0) = false := by simp; omega
        have hle : Sn ≤ S1 := by have := L1.out.le; have := HLT.out; omega
        cases hb : fs.testBit p with
        | false =>
          rw [hb] at x6
          have PF : Hid (∀ W, wr.grownBy W none → VisitPost B ps n l wd turn gt T aw cw as_ cs S gf gs gm N fs Sn G v w (.returned (.bool false)) W) := fun W hW => ⟨false, S1, M1, rfl, A1.out.grown hW, K1.out.trans (Keeps.grown hW), fun h => (I1.out h).grown hW, hle, (fun e => by cases e), fun _ => ⟨LA.out.inv.leave LA.out.all HNG.out (by rw [HVA.out, hb]), L1.out.old, L1.out.inv_v⟩⟩
          clear hb
          have hvmI := HVM.out
          go_wp2_with fail
          first
          | (go_region_with (first | (refine skip_op (by rfl) ?_)))
          | fail
          all_goals
            go_wp2_with fail
            go_ret
            first
            | exact PF.out _ (grown_refl _ _)
            | exact PF.out _ (grown_drew (grown_refl _ _))
            | exact PF.out _ (grown_drewN (grown_refl _ _) _)
        | true =>
          rw [hb] at x6
          have HPost : Hid (∀ W0 E w7, wr.grownBy W0 none → LeadsPost B ps n l wd turn gt T aw cw as_ cs S gf gs gm N fs S1 M1 v v W0 E w7 → VisitPost B ps n l wd turn gt T aw cw as_ cs S gf gs gm N fs Sn G v w E w7) := fun W0 E w7 hW hE => by
            obtain ⟨r, M7, hE1, hS7, hK7, hI7, hM7, ht7, hf7⟩ := hE
            refine ⟨r, S1, M7, hE1, hS7, (K1.out.trans (Keeps.grown hW)).trans hK7, fun h => hI7 ((I1.out h).grown hW), hle, fun e => ?_, fun e => ?_⟩
            · obtain ⟨j, hj⟩ := ht7 e
              exact ⟨v, 0, j, rfl, by rw [HVA.out, hb], hj⟩
            · exact ⟨LA.out.inv.leave2 LA.out.all HNG.out HG.out (hf7 e), L1.out.old, L1.out.inv_v⟩
          have HLM : Hid (M1 < 2 ^ N) := L1.out.inv.ltM
          clear hb
          have hvmI := HVM.out
          go_wp2_with fail
          first
          | (go_region_with (first | (go_at_call 84; refine (HLd.out M1 S1 _ HLM.out (A1.out.grown (grown_drew (grown_refl _ _)))).mono ?_; intro E w7 hE; have PT : Hid (VisitPost B ps n l wd turn gt T aw cw as_ cs S gf gs gm N fs Sn G v w E w7) := HPost.out _ E w7 (grown_drew (grown_refl _ _)) hE; have hE2 := hE; obtain ⟨r, M7, rfl, _⟩ := hE2; clear hE)))
          | fail
          all_goals
            go_wp2_with fail
            go_ret
            exact PT.out

end Go.Proofs.Ytfjpdeoldcfhdaa
