/- The search in memory, and its next. -/
import Derived.Test.YtfjpdeoldcfhdaaUPlace
import Derived.Test.YtfjpdeoldcfhdaaURoundD
import Derived.Test.YtfjpdeoldcfhdaaUCheck2
namespace Go.Proofs.Ytfjpdeoldcfhdaa
open Go.RowKit
set_option linter.unusedVariables false

/-- The states that the steps of one number lead to. -/
def toL (T : List StepI) (l i : Nat) : List Nat := (T.filter fun t => decide (t.1.toNat * l + t.2.1.toNat = i)).map fun t => t.2.2.toNat
theorem two_of {a b c d l : Nat} (hb : b < l) (hd : d < l) : a * l + b = c * l + d ↔ a = c ∧ b = d := by
  constructor
  · intro h
    have h1 : (a * l + b) / l = (c * l + d) / l := by rw [h]
    have h2 : (a * l + b) % l = (c * l + d) % l := by rw [h]
    rw [Nat.mul_comm a, Nat.mul_comm c, Nat.mul_add_div (by omega), Nat.mul_add_div (by omega), Nat.div_eq_of_lt hb, Nat.div_eq_of_lt hd] at h1
    rw [Nat.mul_comm a, Nat.mul_comm c, Nat.mul_add_mod, Nat.mul_add_mod, Nat.mod_eq_of_lt hb, Nat.mod_eq_of_lt hd] at h2
    exact ⟨by omega, h2⟩
  · rintro ⟨rfl, rfl⟩; rfl
theorem nxP_toL {T : List StepI} {l n turn a p : Nat} {wd : List Nat} (hT : InT T l n) (hp : p < n) (hw : wd.getD a 0 < l) : nxP T wd n turn (a * n + p) = (toL T l (p * l + wd.getD a 0)).map fun q => nextAt wd.length turn a * n + q := by
  have e1 : (a * n + p) % n = p := by rw [Nat.mul_comm, Nat.mul_add_mod, Nat.mod_eq_of_lt hp]
  have e2 : (a * n + p) / n = a := by rw [Nat.mul_comm, Nat.mul_add_div (by omega), Nat.div_eq_of_lt hp, Nat.add_zero]
  unfold nxP toL
  rw [e1, e2, List.map_map]
  have e3 : (T.filter fun t => decide (t.1.toNat = p) && decide (t.2.1.toNat = wd.getD a 0)) = T.filter fun t => decide (t.1.toNat * l + t.2.1.toNat = p * l + wd.getD a 0) := by
    refine List.filter_congr fun t ht => ?_
    obtain ⟨i, hi, e⟩ := List.getElem_of_mem ht
    have h1 := hT i hi
    simp only [List.getD, List.getElem?_eq_getElem hi, Option.getD_some] at h1
    rw [e] at h1
    obtain ⟨_, ⟨i3, i4⟩, _⟩ := h1
    have h2 := two_of (a := t.1.toNat) (b := t.2.1.toNat) (c := p) (d := wd.getD a 0) (l := l) (by omega) hw
    rw [← Bool.decide_and]
    exact decide_eq_decide.2 h2.symm
  rw [e3]
  rfl

/-- What of the search stays as it is. -/
structure StaAt (w : World) (ps n l : Nat) (wd : List Nat) (turn gt : Nat) (T : List StepI) (aw : Option Addr) (cw : Nat) (as_ : Option Addr) (cs : Nat) (S : List Int) (gf gs gm N : Nat) : Prop where
  c0 : w.cell? ⟨ps, 0, none⟩ = some (.int .i64 (n : Int))
  c1 : w.cell? ⟨ps, 1, none⟩ = some (.int .i64 (l : Int))
  c2 : w.cell? ⟨ps, 2, none⟩ = some (.slice aw wd.length cw)
  c3 : w.cell? ⟨ps, 3, none⟩ = some (.int .i64 (turn : Int))
  c4 : w.cell? ⟨ps, 4, none⟩ = some (.slice (some ⟨gt, 0, none⟩) (n * l) (n * l))
  c5 : w.cell? ⟨ps, 5, none⟩ = some (.slice as_ S.length cs)
  c6 : w.cell? ⟨ps, 6, none⟩ = some (.slice (some ⟨gf, 0, none⟩) n n)
  c7 : w.cell? ⟨ps, 7, none⟩ = some (.slice (some ⟨gs, 0, none⟩) N N)
  c8 : w.cell? ⟨ps, 8, none⟩ = some (.slice (some ⟨gm, 0, none⟩) N N)
  word : Ints w aw (natInts wd)
  tab : ∀ i, i < n * l → ∃ a c, w.cell? ⟨gt, i, none⟩ = some (.slice a (toL T l i).length c) ∧ Ints w a (natInts (toL T l i))
  start : Ints w as_ S
theorem StaAt.grown {w w' : World} {ps n l : Nat} {wd : List Nat} {turn gt : Nat} {T : List StepI} {aw : Option Addr} {cw : Nat} {as_ : Option Addr} {cs : Nat} {S : List Int} {gf gs gm N : Nat} (h : StaAt w ps n l wd turn gt T aw cw as_ cs S gf gs gm N) (hg : w.grownBy w' none) : StaAt w' ps n l wd turn gt T aw cw as_ cs S gf gs gm N :=
  ⟨hg.cell h.c0 (by simp), hg.cell h.c1 (by simp), hg.cell h.c2 (by simp), hg.cell h.c3 (by simp), hg.cell h.c4 (by simp), hg.cell h.c5 (by simp), hg.cell h.c6 (by simp), hg.cell h.c7 (by simp), hg.cell h.c8 (by simp), h.word.grown hg, fun i hi => by
    obtain ⟨a, c, h1, h2⟩ := h.tab i hi
    exact ⟨a, c, hg.cell h1 (by simp), h2.grown hg⟩, h.start.grown hg⟩

/-- What next answers. -/
def NextPost (T : List StepI) (l n : Nat) (wd : List Nat) (turn a p : Nat) (w : World) (E : Ending) (w' : World) : Prop :=
  ∃ (ar : Option Addr) (cr : Nat), E = .returned (.tuple #[.int .i64 ((nextAt wd.length turn a * n : Nat) : Int), .slice ar (toL T l (p * l + wd.getD a 0)).length cr]) ∧ Ints w' ar (natInts (toL T l (p * l + wd.getD a 0))) ∧ w.grownBy w' none

set_option maxHeartbeats 3200000 in
set_option maxRecDepth 100000 in
theorem next_any {w : World} {ps n l : Nat} {wd : List Nat} {turn gt : Nat} {T : List StepI} {aw : Option Addr} {cw : Nat} {as_ : Option Addr} {cs : Nat} {S : List Int} {gf gs gm N : Nat} (h : StaAt w ps n l wd turn gt T aw cw as_ cs S gf gs gm N) (hn : n ≤ 300) (hl : l ≤ 4) (a p : Nat) (ha : a < wd.length) (hwl : wd.length ≤ 1000) (htl : turn < wd.length) (hp : p < n) (hw : wd.getD a 0 < l) :
    Calls Try.prog 83 #[.pointer (some ⟨ps, 0, none⟩), .int .i64 ((a * n + p : Nat) : Int)] w (NextPost T l n wd turn a p w) := by
  have ST : Hid (StaAt w ps n l wd turn gt T aw cw as_ cs S gf gs gm N) := h
  obtain ⟨c0, c1, c2, c3, c4, c5, c6, c7, c8, hword, htab, _⟩ := h
  obtain ⟨bw, ow, rfl, hc⟩ := hword.at (k := a) (by simpa [natInts] using ha)
  have yw := hc a (by simpa [natInts] using ha)
  have ew : (natInts wd).getD a 0 = ((wd.getD a 0 : Nat) : Int) := by simp [natInts, List.getD, ha]
  rw [ew] at yw
  have hpl : p * l + wd.getD a 0 < n * l := by
    have h1 : (p + 1) * l ≤ n * l := Nat.mul_le_mul_right _ (by omega)
    rw [Nat.succ_mul] at h1
    omega
  obtain ⟨ar, cr, ht, hr⟩ := htab _ hpl
  have HR : Hid (∀ W, w.grownBy W none → Ints W ar (natInts (toL T l (p * l + wd.getD a 0)))) := fun W hW => hr.grown hW
  have hnl : n * l ≤ 1200 := Nat.le_trans (Nat.mul_le_mul hn hl) (by decide)
  obtain ⟨x, hx⟩ : ∃ x, wd.getD a 0 = x := ⟨_, rfl⟩
  rw [hx] at yw hpl ht HR hw
  have HX : Hid (wd.getD a 0 = x) := hx
  obtain ⟨i, hi⟩ : ∃ i, p * l + x = i := ⟨_, rfl⟩
  have HI : Hid (p * l + x = i) := hi
  rw [hi] at hpl ht HR
  obtain ⟨m, hm⟩ : ∃ m, (toL T l i).length = m := ⟨_, rfl⟩
  have HM : Hid ((toL T l i).length = m) := hm
  rw [hm] at ht
  obtain ⟨k, hk⟩ : ∃ k, n * l = k := ⟨_, rfl⟩
  rw [hk] at c4 hpl hnl
  obtain ⟨len, hlen⟩ : ∃ len, wd.length = len := ⟨_, rfl⟩
  have HLN : Hid (wd.length = len) := hlen
  rw [hlen] at c2 ha hwl htl
  obtain ⟨v, hv⟩ : ∃ v, a * n + p = v := ⟨_, rfl⟩
  have hvd : v / n = a := by rw [← hv, Nat.mul_comm, Nat.mul_add_div (by omega), Nat.div_eq_of_lt hp, Nat.add_zero]
  have hvm : v % n = p := by rw [← hv, Nat.mul_comm, Nat.mul_add_mod, Nat.mod_eq_of_lt hp]
  rw [hv]
  have hvb : v ≤ 400000 := by
    have h1 : (a + 1) * n ≤ 1000 * 300 := Nat.mul_le_mul (by omega) hn
    rw [Nat.succ_mul] at h1
    omega
  clear hv hc ew htab hr hm hi hx hlen hword
  have n0 : ((n : Int) == 0) = false := by simp; omega
  have hvdI : (v : Int) / (n : Int) = (a : Int) := by rw [← hvd]; exact (Int.natCast_ediv v n).symm
  have hvmI : (v : Int) % (n : Int) = (p : Int) := by rw [← hvm]; exact (Int.natCast_emod v n).symm
  have HVD : Hid ((v : Int) / (n : Int) = (a : Int)) := hvdI
  have HVM : Hid ((v : Int) % (n : Int) = (p : Int)) := hvmI
  obtain ⟨pl, hpl0⟩ : ∃ pl, p * l = pl := ⟨_, rfl⟩
  have hplb : pl ≤ 1200 := by have := HI.out; omega
  have e1 : IntKind.i64.wrap ((p : Int) * (l : Int)) = (pl : Int) := by
    rw [show (p : Int) * (l : Int) = (pl : Int) by rw [← hpl0]; exact (Int.natCast_mul p l).symm, IntKind.wrap_i64]
    omega
  have e2 : IntKind.i64.wrap ((pl : Int) + (x : Int)) = (i : Int) := by rw [IntKind.wrap_i64]; have := HI.out; omega
  have e3 : IntKind.i64.wrap ((a : Int) + 1) = ((a + 1 : Nat) : Int) := by rw [IntKind.wrap_i64]; omega
  have hii : (i : Int) < (k : Int) := by omega
  have hai : (a : Int) < (len : Int) := by omega
  obtain ⟨nx, hnx⟩ : ∃ nx, nextAt len turn a = nx := ⟨_, rfl⟩
  have HNX : Hid (nextAt len turn a = nx) := hnx
  obtain ⟨z, hz⟩ : ∃ z, nx * n = z := ⟨_, rfl⟩
  have HZ : Hid (nx * n = z) := hz
  have hnx1 : nx ≤ 1000 := by rw [← hnx]; unfold nextAt; split <;> omega
  have hzb : z ≤ 300000 := by rw [← hz]; exact Nat.mul_le_mul hnx1 hn
  have e4 : IntKind.i64.wrap ((nx : Int) * (n : Int)) = (z : Int) := by
    rw [show (nx : Int) * (n : Int) = (z : Int) by rw [← hz]; exact (Int.natCast_mul nx n).symm, IntKind.wrap_i64]
    omega
  clear hvdI hvmI hz hpl0 hk
  by_cases hend : a + 1 = len
  · have e5 : nx = turn := by rw [← hnx]; unfold nextAt; rw [if_pos hend]
    have f1 : (((a + 1 : Nat) : Int) == (len : Int)) = true := by simp; omega
    subst e5
    clear hnx
    go_enter Try.func83, Try.ntmps83
    go_wp2
    go_quiet (fail)
    go_wp2
    simp only [HVD.out, HVM.out]
    go_quiet (fail)
    go_wp2
    refine bodyPost_ret (v := .tuple #[.int .i64 (z : Int), .slice ar m cr]) (by simp [results, Try.results83, go_sem]) rfl ⟨ar, cr, ?_, ?_, ?_⟩
    · rw [HX.out, HI.out, HM.out, HLN.out, HNX.out, HZ.out]
    · rw [HX.out, HI.out]; exact HR.out _ (grown_drewN (grown_refl _ _) _)
    · exact grown_drewN (grown_refl _ _) _
  · have e5 : nx = a + 1 := by rw [← hnx]; unfold nextAt; rw [if_neg hend]
    have f1 : (((a + 1 : Nat) : Int) == (len : Int)) = false := by simp; omega
    have f2 : ((a : Int) + 1 == (len : Int)) = false := by simp; omega
    have e6 : IntKind.i64.wrap (((a : Int) + 1) * (n : Int)) = (z : Int) := by
      have h1 : ((nx : Nat) : Int) = (a : Int) + 1 := by rw [e5]; rfl
      rw [h1] at e4; exact e4
    clear hnx e5 e4
    go_enter Try.func83, Try.ntmps83
    go_wp2
    go_quiet (fail)
    go_wp2
    simp only [HVD.out, HVM.out]
    go_quiet (fail)
    go_wp2
    refine bodyPost_ret (v := .tuple #[.int .i64 (z : Int), .slice ar m cr]) (by simp [results, Try.results83, go_sem]) rfl ⟨ar, cr, ?_, ?_, ?_⟩
    · rw [HX.out, HI.out, HM.out, HLN.out, HNX.out, HZ.out]
    · rw [HX.out, HI.out]; exact HR.out _ (grown_drewN (grown_refl _ _) _)
    · exact grown_drewN (grown_refl _ _) _

end Go.Proofs.Ytfjpdeoldcfhdaa
