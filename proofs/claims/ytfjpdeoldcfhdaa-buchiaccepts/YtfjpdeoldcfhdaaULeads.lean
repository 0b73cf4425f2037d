/- The second look: leads. -/
import Derived.Test.YtfjpdeoldcfhdaaUSearch
import Derived.Test.YtfjpdeoldcfhdaaHMem
namespace Go.Proofs.Ytfjpdeoldcfhdaa
open Go.RowKit
set_option linter.unusedVariables false

theorem bools_apart {B : Nat} {w : World} {g N s : Nat} {r : List Item} (h : Owns B w (bIt g N N s :: r)) {b o : Nat} {v : Value} (hc : w.cell? ⟨b, o, none⟩ = some v) (hv : ∀ x, v ≠ .bool x) : some b ≠ some g := fun e => by
  cases e
  have hr : w.ownsRow B 4 1 (.slice (some ⟨g, 0, none⟩) N N) N (bset s N) := by have h0 := h.row; rwa [bset_len] at h0
  obtain ⟨h1, h2⟩ := hr
  rcases h2 with ⟨e0, _⟩ | ⟨g', cap', cur, e1, hB, hh, h5, h6, h7, h8⟩
  · cases e0
  · cases e1
    rw [cell_of_row _ _ o _ _ (0, 0) hh] at hc
    have hlen : (bset s N).length = N := bset_len s N
    have e2 : cur.toList = bset s N := by
      have h9 : cur.toList.length = N := by simpa using h7
      have h10 := h8
      rw [Nat.mul_one, show N = cur.toList.length from h9.symm, List.take_length] at h10
      rw [h9] at h10
      exact h10
    have h11 : v ∈ bset s N := by
      rw [← e2]
      have : cur.toList[o]? = some v := by simpa using hc
      exact List.mem_of_getElem? this
    unfold bset at h11
    obtain ⟨i, _, e3⟩ := List.mem_map.1 h11
    exact hv _ e3.symm
section
variable {w : World} {ps n l : Nat} {wd : List Nat} {turn gt : Nat} {T : List StepI} {aw : Option Addr} {cw : Nat} {as_ : Option Addr} {cs : Nat} {S : List Int} {gf gs gm N : Nat}
theorem ints_far {B g s : Nat} {r : List Item} (h : Owns B w (bIt g N N s :: r)) {w' : World} (hg : w.grownBy w' (some g)) {a : Option Addr} {zs : List Int} (hi : Ints w a zs) : Ints w' a zs := by
  rcases hi with rfl | ⟨b, off, e1, hc⟩
  · exact .inl rfl
  · exact .inr ⟨b, off, e1, fun i hi => hg.cell (hc i hi) (bools_apart h (hc i hi) (by intro x e; cases e))⟩
theorem StaAt.far {B g s : Nat} {r : List Item} (h : StaAt w ps n l wd turn gt T aw cw as_ cs S gf gs gm N) (ho : Owns B w (bIt g N N s :: r)) {w' : World} (hg : w.grownBy w' (some g)) : StaAt w' ps n l wd turn gt T aw cw as_ cs S gf gs gm N := by
  have key : ∀ {b o : Nat} {v : Value}, w.cell? ⟨b, o, none⟩ = some v → (∀ x, v ≠ .bool x) → w'.cell? ⟨b, o, none⟩ = some v := fun hc hv => hg.cell hc (bools_apart ho hc hv)
  exact ⟨key h.c0 (by intro x e; cases e), key h.c1 (by intro x e; cases e), key h.c2 (by intro x e; cases e), key h.c3 (by intro x e; cases e), key h.c4 (by intro x e; cases e), key h.c5 (by intro x e; cases e), key h.c6 (by intro x e; cases e), key h.c7 (by intro x e; cases e), key h.c8 (by intro x e; cases e), ints_far ho hg h.word, fun i hi => by
    obtain ⟨a, c, h1, h2⟩ := h.tab i hi
    exact ⟨a, c, key h1 (by intro x e; cases e), ints_far ho hg h2⟩, ints_far ho hg h.start⟩
end
/-- The search in memory, with what is seen. -/
structure SeAt (B : Nat) (w : World) (ps n l : Nat) (wd : List Nat) (turn gt : Nat) (T : List StepI) (aw : Option Addr) (cw : Nat) (as_ : Option Addr) (cs : Nat) (S : List Int) (gf gs gm N fs Sn M : Nat) : Prop where
  sta : StaAt w ps n l wd turn gt T aw cw as_ cs S gf gs gm N
  own : Owns B w [bIt gm N N M, bIt gs N N Sn, bIt gf n n fs]
section
variable {B : Nat} {w : World} {ps n l : Nat} {wd : List Nat} {turn gt : Nat} {T : List StepI} {aw : Option Addr} {cw : Nat} {as_ : Option Addr} {cs : Nat} {S : List Int} {gf gs gm N fs Sn M : Nat}
theorem SeAt.grown (h : SeAt B w ps n l wd turn gt T aw cw as_ cs S gf gs gm N fs Sn M) {w' : World} (hg : w.grownBy w' none) : SeAt B w' ps n l wd turn gt T aw cw as_ cs S gf gs gm N fs Sn M := ⟨h.sta.grown hg, h.own.kept hg⟩
theorem SeAt.markM (h : SeAt B w ps n l wd turn gt T aw cw as_ cs S gf gs gm N fs Sn M) {q : Nat} (hq : q < N) : w.cell? ⟨gm, q, none⟩ = some (.bool (M.testBit q)) ∧ w.frozen? ⟨gm, q, none⟩ = false ∧ SeAt B (w.setCell ⟨gm, q, none⟩ (.bool true)) ps n l wd turn gt T aw cw as_ cs S gf gs gm N fs Sn (M ||| 2 ^ q) ∧ Keeps B w (w.setCell ⟨gm, q, none⟩ (.bool true)) ∧ ∀ {a : Option Addr} {zs : List Int}, Ints w a zs → Ints (w.setCell ⟨gm, q, none⟩ (.bool true)) a zs := by
  have hg := grown_set w ⟨gm, q, none⟩ (.bool true)
  have h2 := h.own.set (i := q) hq (.bool true)
  rw [bset_set hq] at h2
  exact ⟨h.own.cell (bset_get hq), h.own.fz q, ⟨h.sta.far h.own hg, h2⟩, (Keeps.refl B w).set h.own.ge.1 _ _, fun hi => ints_far h.own hg hi⟩
end

/-- What leads answers. -/
def LeadsPost (B : Nat) (ps n l : Nat) (wd : List Nat) (turn gt : Nat) (T : List StepI) (aw : Option Addr) (cw : Nat) (as_ : Option Addr) (cs : Nat) (S : List Int) (gf gs gm N fs Sn M back v : Nat) (w : World) (E : Ending) (w' : World) : Prop :=
  ∃ (r : Bool) (M' : Nat), E = .returned (.bool r) ∧ SeAt B w' ps n l wd turn gt T aw cw as_ cs S gf gs gm N fs Sn M' ∧ Keeps B w w' ∧ (∀ {a : Option Addr} {zs : List Int}, Ints w a zs → Ints w' a zs) ∧ M ≤ M' ∧ (r = true → ∃ k, goN (nxP T wd n turn) (k + 1) v back) ∧ (r = false → LeadsIn (nxP T wd n turn) N back v (nxP T wd n turn v).length M M')

theorem inS_lt {M q N : Nat} (hq : q < N) (hM : M < 2 ^ N) (hb : M.testBit q = false) : M < M ||| 2 ^ q := by
  have h1 : M ≤ M ||| 2 ^ q := Nat.left_le_or
  rcases Nat.lt_or_eq_of_le h1 with h2 | h2
  · exact h2
  · have h3 : (M ||| 2 ^ q).testBit q = true := by simp
    rw [← h2, hb] at h3
    cases h3

set_option maxHeartbeats 6400000 in
set_option maxRecDepth 100000 in
theorem leads_any (B ps n l : Nat) (wd : List Nat) (turn gt : Nat) (T : List StepI) (aw : Option Addr) (cw : Nat) (as_ : Option Addr) (cs : Nat) (S : List Int) (gf gs gm N fs Sn back : Nat) (hT : InT T l n) (hTl : T.length ≤ 1000000) (hn : n ≤ 300) (hl : l ≤ 4) (hwl : wd.length ≤ 1000) (htl : turn < wd.length) (hN : N = wd.length * n) (hwd : ∀ k, k < wd.length → wd.getD k 0 < l) (hbk : back ≤ 1000000) :
    ∀ (fuel M a p : Nat) (w : World), 2 ^ N - M ≤ fuel → M < 2 ^ N → a < wd.length → p < n → SeAt B w ps n l wd turn gt T aw cw as_ cs S gf gs gm N fs Sn M →
    Calls Try.prog 84 #[.pointer (some ⟨ps, 0, none⟩), .int .i64 ((a * n + p : Nat) : Int), .int .i64 (back : Int)] w (LeadsPost B ps n l wd turn gt T aw cw as_ cs S gf gs gm N fs Sn M back (a * n + p) w) := by
  have HT : Hid (InT T l n) := hT
  have HTl : Hid (T.length ≤ 1000000) := hTl
  have HN : Hid (N = wd.length * n) := hN
  have HWD : Hid (∀ k, k < wd.length → wd.getD k 0 < l) := hwd
  have HL1 : Hid (wd.length ≤ 1000 ∧ turn < wd.length) := ⟨hwl, htl⟩
  clear hT hTl hN hwd hwl htl
  intro fuel
  induction fuel with
  | zero => intro M a p w h1 h2; omega
  | succ fuel ih =>
    intro M a p w hf hM ha hp hSe
    have IH : Hid (∀ (M a p : Nat) (w : World), 2 ^ N - M ≤ fuel → M < 2 ^ N → a < wd.length → p < n → SeAt B w ps n l wd turn gt T aw cw as_ cs S gf gs gm N fs Sn M → Calls Try.prog 84 #[.pointer (some ⟨ps, 0, none⟩), .int .i64 ((a * n + p : Nat) : Int), .int .i64 (back : Int)] w (LeadsPost B ps n l wd turn gt T aw cw as_ cs S gf gs gm N fs Sn M back (a * n + p) w)) := ih
    have SE : Hid (SeAt B w ps n l wd turn gt T aw cw as_ cs S gf gs gm N fs Sn M) := hSe
    have HNx : Hid (∀ W, StaAt W ps n l wd turn gt T aw cw as_ cs S gf gs gm N → Calls Try.prog 83 #[.pointer (some ⟨ps, 0, none⟩), .int .i64 ((a * n + p : Nat) : Int)] W (NextPost T l n wd turn a p W)) := fun W h => next_any h hn hl a p ha HL1.out.1 HL1.out.2 hp (HWD.out a ha)
    have HF : Hid (2 ^ N - M ≤ fuel + 1 ∧ M < 2 ^ N) := ⟨hf, hM⟩
    have HNXP : Hid (nxP T wd n turn (a * n + p) = (toL T l (p * l + wd.getD a 0)).map fun q => nextAt wd.length turn a * n + q) := nxP_toL HT.out hp (HWD.out a ha)
    have hna : nextAt wd.length turn a < wd.length := by unfold nextAt; have := HL1.out.2; split <;> omega
    have hrow : ∀ q, q ∈ toL T l (p * l + wd.getD a 0) → q < n := fun q hq => by
      obtain ⟨t, h1, h2⟩ := List.mem_map.1 hq
      obtain ⟨i, hi, e⟩ := List.getElem_of_mem (List.mem_filter.1 h1).1
      have h3 := HT.out i hi
      simp only [List.getD, List.getElem?_eq_getElem hi, Option.getD_some] at h3
      rw [e] at h3
      obtain ⟨_, _, ⟨i5, i6⟩⟩ := h3
      omega
    have hml : (toL T l (p * l + wd.getD a 0)).length ≤ 1000000 := by unfold toL; rw [List.length_map]; exact Nat.le_trans (List.length_filter_le _ _) HTl.out
    obtain ⟨v, hv⟩ : ∃ v, a * n + p = v := ⟨_, rfl⟩
    rw [hv] at HNx HNXP
    rw [hv]
    obtain ⟨us, hus⟩ : ∃ us, toL T l (p * l + wd.getD a 0) = us := ⟨_, rfl⟩
    rw [hus] at HNXP hrow hml
    have HUS : Hid (toL T l (p * l + wd.getD a 0) = us) := hus
    obtain ⟨na, hnae⟩ : ∃ na, nextAt wd.length turn a = na := ⟨_, rfl⟩
    rw [hnae] at HNXP hna
    have HNA : Hid (nextAt wd.length turn a = na) := hnae
    obtain ⟨m, hm⟩ : ∃ m, us.length = m := ⟨_, rfl⟩
    have HMU : Hid (us.length = m) := hm
    rw [hm] at hml
    obtain ⟨z, hz⟩ : ∃ z, na * n = z := ⟨_, rfl⟩
    have HZ : Hid (na * n = z) := hz
    have HRow : Hid (∀ q, q ∈ us → q < n) := hrow
    have HNa : Hid (na < wd.length) := hna
    have hzb : z ≤ 300000 := by rw [← hz]; exact Nat.mul_le_mul (show na ≤ 1000 by have := HL1.out.1; omega) hn
    clear hf hM ih hSe hv hus hnae hm hz hrow hna ha hp
    go_enter Try.func84, Try.ntmps84
    go_wp2_with fail
    refine (HNx.out w SE.out.sta).mono ?_
    rintro E w2 ⟨ar, cr, rfl, hI2, hg2⟩
    rw [HUS.out] at hI2
    rw [HUS.out, HNA.out, HZ.out, HMU.out]
    have I2 : Hid (Ints w2 ar (natInts us)) := hI2
    have S2 : Hid (SeAt B w2 ps n l wd turn gt T aw cw as_ cs S gf gs gm N fs Sn M) := SE.out.grown hg2
    have G2 : Hid (w.grownBy w2 none) := hg2
    clear hI2 hg2 HNx
    go_wp2_with fail
    go_loopw [20] (fun vk wr => ∃ k M' : Nat, k ≤ m ∧ vk = .int .i64 k ∧ SeAt B wr ps n l wd turn gt T aw cw as_ cs S gf gs gm N fs Sn M' ∧ Keeps B w wr ∧ (∀ {a : Option Addr} {zs : List Int}, Ints w a zs → Ints wr a zs) ∧ Ints wr ar (natInts us) ∧ M ≤ M' ∧ LeadsIn (nxP T wd n turn) N back v k M M') (fun vk _ => m - (intOf vk).toNat)
    case atStart => exact ⟨0, M, by omega, rfl, S2.out, Keeps.grown G2.out, fun h => h.grown G2.out, I2.out, Nat.le_refl _, LeadsIn.start HF.out.2⟩
    case round =>
      clear S2 I2 G2
      rename World => wr
      obtain ⟨k, M1, hk, rfl, hS1, hK1, hI1, hU1, hM1, hL1⟩ := hrel
      have S1 : Hid (SeAt B wr ps n l wd turn gt T aw cw as_ cs S gf gs gm N fs Sn M1) := hS1
      have K1 : Hid (Keeps B w wr) := hK1
      have I1 : Hid (∀ {a : Option Addr} {zs : List Int}, Ints w a zs → Ints wr a zs) := hI1
      have U1 : Hid (Ints wr ar (natInts us)) := hU1
      have L1 : Hid (M ≤ M1 ∧ LeadsIn (nxP T wd n turn) N back v k M M1) := ⟨hM1, hL1⟩
      clear hS1 hK1 hI1 hU1 hM1 hL1
      by_cases hlt : k < m
      · have hki : (k : Int) < (m : Int) := by omega
        have hku : k < us.length := by rw [HMU.out]; exact hlt
        obtain ⟨bu, ou, rfl, hc⟩ := U1.out.at (k := k) (by simpa [natInts] using hku)
        have y0 := hc k (by simpa [natInts] using hku)
        have ey : (natInts us).getD k 0 = ((us.getD k 0 : Nat) : Int) := by simp [natInts, List.getD, hku]
        rw [ey] at y0
        obtain ⟨u, hu⟩ : ∃ u, us.getD k 0 = u := ⟨_, rfl⟩
        rw [hu] at y0
        have hun : u < n := HRow.out u (by rw [← hu, List.getD, List.getElem?_eq_getElem hku]; exact List.getElem_mem _)
        have HQ : Hid ((nxP T wd n turn v)[k]? = some (z + u)) := by
          show _ = _
          rw [HNXP.out, HZ.out, List.getElem?_map, List.getElem?_eq_getElem hku, ← hu]
          simp [List.getD, hku]
        have hqN : z + u < N := by
          have h1 : (na + 1) * n ≤ wd.length * n := Nat.mul_le_mul_right _ HNa.out
          rw [Nat.succ_mul, HZ.out, ← HN.out] at h1
          omega
        obtain ⟨q, hq⟩ : ∃ q, z + u = q := ⟨_, rfl⟩
        rw [hq] at HQ hqN
        have HQE : Hid (z + u = q) := hq
        have ew : IntKind.i64.wrap ((z : Int) + (u : Int)) = (q : Int) := by rw [IntKind.wrap_i64]; omega
        obtain ⟨x0, x1, hS5, hK5, hI5⟩ := S1.out.markM hqN
        have S5 : Hid (SeAt B (wr.setCell ⟨gm, q, none⟩ (.bool true)) ps n l wd turn gt T aw cw as_ cs S gf gs gm N fs Sn (M1 ||| 2 ^ q)) := hS5
        have K5 : Hid (Keeps B wr (wr.setCell ⟨gm, q, none⟩ (.bool true))) := hK5
        have I5 : Hid (∀ {a : Option Addr} {zs : List Int}, Ints wr a zs → Ints (wr.setCell ⟨gm, q, none⟩ (.bool true)) a zs) := hI5
        have c8 := S1.out.sta.c8
        clear hc ey hu hku hS5 hK5 hI5
        have hqi : (q : Int) < (N : Int) := by omega
        by_cases hqb : q = back
        · have f1 : ((q : Int) == (back : Int)) = true := by simp; omega
          have PT : Hid (LeadsPost B ps n l wd turn gt T aw cw as_ cs S gf gs gm N fs Sn M back v w (.returned (.bool true)) wr) := ⟨true, M1, rfl, S1.out, K1.out, I1.out, L1.out.1, fun _ => ⟨0, by rw [← hqb]; exact goN_one (List.mem_of_getElem? HQ.out)⟩, fun e => by cases e⟩
          go_wp2_with fail
          go_ret
          exact PT.out
        · have f1 : ((q : Int) == (back : Int)) = false := by simp; omega
          cases hbit : M1.testBit q with
          | true =>
            rw [hbit] at x0
            have L2 : Hid (LeadsIn (nxP T wd n turn) N back v (k + 1) M M1) := L1.out.2.skip HQ.out hqb hbit
            clear hbit
            go_wp2_with fail
            go_roundw
            case rel => exact ⟨k + 1, M1, by omega, by go_num, S1.out, K1.out, I1.out, U1.out, L1.out.1, L2.out⟩
            case measure => simp [intOf]; omega
          | false =>
            rw [hbit] at x0
            have hlt5 := inS_lt hqN L1.out.2.lt hbit
            have HQU : Hid (na * n + u = q) := by show _ = _; rw [HZ.out]; exact hq
            have CR : Hid (Calls Try.prog 84 #[.pointer (some ⟨ps, 0, none⟩), .int .i64 (q : Int), .int .i64 (back : Int)] (wr.setCell ⟨gm, q, none⟩ (.bool true)) (LeadsPost B ps n l wd turn gt T aw cw as_ cs S gf gs gm N fs Sn (M1 ||| 2 ^ q) back q (wr.setCell ⟨gm, q, none⟩ (.bool true)))) := by
              have h1 := IH.out (M1 ||| 2 ^ q) na u (wr.setCell ⟨gm, q, none⟩ (.bool true)) (by have := HF.out; have := L1.out.1; omega) (add_lt L1.out.2.lt hqN) HNa.out hun S5.out
              rw [HQU.out] at h1
              exact h1
            have NB : Hid (¬ InS M1 q) := by show ¬ _; rw [InS, hbit]; simp
            clear hbit
            go_wp2_with fail
            refine CR.out.mono ?_
            rintro E w7 ⟨r, M7, rfl, hS7, hK7, hI7, hM7, ht7, hf7⟩
            cases r with
            | true =>
              obtain ⟨j, hj⟩ := ht7 rfl
              have PT : Hid (LeadsPost B ps n l wd turn gt T aw cw as_ cs S gf gs gm N fs Sn M back v w (.returned (.bool true)) w7) := ⟨true, M7, rfl, hS7, (K1.out.trans K5.out).trans hK7, fun h => hI7 (I5.out (I1.out h)), by have := L1.out.1; omega, fun _ => ⟨j + 1, by have h1 := goN_add (goN_one (List.mem_of_getElem? HQ.out)) hj; rwa [Nat.add_comm 1] at h1⟩, fun e => by cases e⟩
              clear hS7 hK7 hI7 ht7 hf7 hj
              go_wp2_with fail
              go_ret
              exact PT.out
            | false =>
              have PR : Hid (SeAt B w7 ps n l wd turn gt T aw cw as_ cs S gf gs gm N fs Sn M7 ∧ Keeps B w w7 ∧ (∀ {a : Option Addr} {zs : List Int}, Ints w a zs → Ints w7 a zs) ∧ Ints w7 (some ⟨bu, ou, none⟩) (natInts us) ∧ M ≤ M7 ∧ LeadsIn (nxP T wd n turn) N back v (k + 1) M M7) := ⟨hS7, (K1.out.trans K5.out).trans hK7, fun h => hI7 (I5.out (I1.out h)), hI7 (I5.out U1.out), by have := L1.out.1; omega, L1.out.2.go HQ.out hqb NB.out (hf7 rfl)⟩
              clear hS7 hK7 hI7 ht7 hf7
              go_wp2_with fail
              go_roundw
              case rel => exact ⟨k + 1, M7, by omega, by go_num, PR.out.1, PR.out.2.1, PR.out.2.2.1, PR.out.2.2.2.1, PR.out.2.2.2.2.1, PR.out.2.2.2.2.2⟩
              case measure => simp [intOf]; omega
      · have hki : ¬ (k : Int) < (m : Int) := by omega
        have PF : Hid (LeadsPost B ps n l wd turn gt T aw cw as_ cs S gf gs gm N fs Sn M back v w (.returned (.bool false)) wr) := ⟨false, M1, rfl, S1.out, K1.out, I1.out, L1.out.1, (fun e => by cases e), fun _ => by
          have e : (nxP T wd n turn v).length = k := by rw [HNXP.out, List.length_map, HMU.out]; omega
          rw [e]; exact L1.out.2⟩
        go_wp2_with fail
        go_ret
        exact PF.out

end Go.Proofs.Ytfjpdeoldcfhdaa
