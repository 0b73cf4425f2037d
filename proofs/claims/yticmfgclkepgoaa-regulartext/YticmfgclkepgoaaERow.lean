/- Where words of a part can end, as the reference finds it: eithers and rows. -/
import Derived.Test.YticmfgclkepgoaaESm
namespace Go.Proofs.Yticmfgclkepgoaa
open Go.RowKit
set_option linter.unusedVariables false

/-- A cell that lies in a block of the call's own stays while others are written. -/
theorem cell_beside {w w' : World} {b o : Nat} {v : Value} {row : Option Nat} (hd : w.cell? ⟨b, o, none⟩ = some v) (hg : w.grownBy w' row) (hne : row ≠ some b) : w'.cell? ⟨b, o, none⟩ = some v := hg.cell hd (Ne.symm hne)

set_option maxHeartbeats 1600000 in
set_option maxRecDepth 100000 in
theorem ends_either (ps : List PartR) (L : Value) (k : Nat) (p : PartR) (qs : List Nat) (ms : List SenseT) (hk : ps[k]? = some p) (hkind : p.kind = 3) (h0 : 0 < ms.length) (hq : p.kids = qs.map Int.ofNat) (hl : qs.length = ms.length) (hml : ms.length ≤ 4001) (a : Option Addr) (cap : Nat) (z : List Int) (N : Nat) (hN : N = z.length + 1) (hn : z.length ≤ 60) (gf : Nat) (h : Nat → Bool) (W : World) (hL : PL W L ps) (hps : ps.length ≤ 13000) (hf : BAt W gf h N)
    (hS : ∀ (t : Nat), t < ms.length → ∀ (W' : World) (gf' : Nat) (h' : Nat → Bool), W.grownBy W' none → BAt W' gf' h' N → Calls Try.prog 20 #[L, .int .i64 (qs.getD t 0 : Nat), .slice a z.length cap, .slice (some ⟨gf', 0, none⟩) N N] W' (Ended z N W' (ms.getD t noneT) h')) :
    Calls Try.prog 20 #[L, .int .i64 k, .slice a z.length cap, .slice (some ⟨gf, 0, none⟩) N N] W (Ended z N W (eitherT ms) h) := by
  obtain ⟨g, capL, rfl, c0, c1, c2⟩ := hL.get hk
  have hlt := (List.getElem?_eq_some_iff.1 hk).1
  have hlt' : (k : Int) < (ps.length : Int) := by omega
  have HN : Hid (N = z.length + 1) := hN
  have hN1 : z.length < N := by omega
  have hN2 : N ≤ 61 := by omega
  have hN3 : (N : Int) ≤ 61 := by omega
  obtain ⟨gK, capK, hkv, hkc⟩ : ∃ gK capK, p.kv = .slice (some ⟨gK, 0, none⟩) ms.length capK ∧ ∀ t, t < ms.length → W.cell? ⟨gK, t, none⟩ = some (.int .i64 (qs.getD t 0 : Nat)) := by
    have hkl : p.kids.length = ms.length := by rw [hq, List.length_map, hl]
    rcases (hL.at_ p (List.mem_of_getElem? hk)).2 with h1 | ⟨gK, capK, _, h1, h2⟩
    · rw [h1] at hkl; simp at hkl; omega
    · refine ⟨gK, capK, by rw [h1, hkl], fun t ht => ?_⟩
      rw [h2 t (by omega), hq]
      simp [List.getD, hl, ht]
  rw [hkind] at c0
  rw [hkv] at c2
  have HKC : Hid (∀ t, t < ms.length → W.cell? ⟨gK, t, none⟩ = some (.int .i64 (qs.getD t 0 : Nat))) := hkc
  have HS : Hid (∀ (t : Nat), t < ms.length → ∀ (W' : World) (gf' : Nat) (h' : Nat → Bool), W.grownBy W' none → BAt W' gf' h' N → Calls Try.prog 20 #[.slice (some ⟨g, 0, none⟩) ps.length capL, .int .i64 (qs.getD t 0 : Nat), .slice a z.length cap, .slice (some ⟨gf', 0, none⟩) N N] W' (Ended z N W' (ms.getD t noneT) h')) := hS
  have F1 : Hid (BAt W gf h N) := hf
  have hmk := bmake (W.alloc (.cells #[.int .i64 3, .int .i64 p.let_, .slice (some ⟨gK, 0, none⟩) ms.length capK] 67)) N hN2
  have G1 : Hid (W.grownBy ((W.alloc (.cells #[.int .i64 3, .int .i64 p.let_, .slice (some ⟨gK, 0, none⟩) ms.length capK] 67)).alloc (.cells (Array.replicate N (Value.bool false)) 4)) none) := grown_trans (World.grownBy_alloc _ _ _) (World.grownBy_alloc _ _ _)
  have B1 : Hid (BAt ((W.alloc (.cells #[.int .i64 3, .int .i64 p.let_, .slice (some ⟨gK, 0, none⟩) ms.length capK] 67)).alloc (.cells (Array.replicate N (Value.bool false)) 4)) (W.heap.size + 1) (fun _ => false) N) := by
    have := BAt.made (W.alloc (.cells #[.int .i64 3, .int .i64 p.let_, .slice (some ⟨gK, 0, none⟩) ms.length capK] 67)) N
    have e : (W.alloc (.cells #[.int .i64 3, .int .i64 p.let_, .slice (some ⟨gK, 0, none⟩) ms.length capK] 67)).heap.size = W.heap.size + 1 := by simp
    rw [e] at this
    exact this
  have D1 : Hid (((W.alloc (.cells #[.int .i64 3, .int .i64 p.let_, .slice (some ⟨gK, 0, none⟩) ms.length capK] 67)).alloc (.cells (Array.replicate N (Value.bool false)) 4)).cell? ⟨W.heap.size, 2, none⟩ = some (.slice (some ⟨gK, 0, none⟩) ms.length capK)) := by
    show World.cell? _ _ = _
    rw [World.cell?_alloc_lt _ _ _ (by simp)]
    simp
  clear hkv hL hk hN hf hS hkc hq
  go_enter Try.func20, Try.ntmps20
  go_wp2_with fail
  go_loopw [12] (fun v wr => ∃ (t : Nat) (ho : Nat → Bool), v = .int .i64 t ∧ t ≤ ms.length ∧ BAt wr (W.heap.size + 1) ho N ∧ W.grownBy wr none ∧ wr.cell? ⟨W.heap.size, 2, none⟩ = some (.slice (some ⟨gK, 0, none⟩) ms.length capK) ∧ ∀ j, j < N → (ho j = true ↔ ∃ i, i < N ∧ h i = true ∧ ∃ q, q < t ∧ ms.getD q noneT z i j)) (fun v _ => ms.length - (intOf v).toNat)
  case atStart => exact ⟨0, fun _ => false, rfl, by omega, B1.out, G1.out, D1.out, fun j hj => by simp⟩
  case round =>
    clear B1 G1 D1
    obtain ⟨t, ho, rfl, ht, hb, hg, hd, hj⟩ := hrel
    have HJ : Hid (∀ j, j < N → (ho j = true ↔ ∃ i, i < N ∧ h i = true ∧ ∃ q, q < t ∧ ms.getD q noneT z i j)) := hj
    have B : Hid (BAt wr (W.heap.size + 1) ho N) := hb
    have G : Hid (W.grownBy wr none) := hg
    have D : Hid (wr.cell? ⟨W.heap.size, 2, none⟩ = some (.slice (some ⟨gK, 0, none⟩) ms.length capK)) := hd
    clear hj hb hg
    by_cases htl : t < ms.length
    · have kc := G.out.cell (HKC.out t htl) (by simp)
      have C : Hid (Calls Try.prog 20 #[.slice (some ⟨g, 0, none⟩) ps.length capL, .int .i64 (qs.getD t 0 : Nat), .slice a z.length cap, .slice (some ⟨gf, 0, none⟩) N N] wr (Ended z N wr (ms.getD t noneT) h)) := HS.out t htl wr gf h G.out (F1.out.kept G.out (by simp))
      generalize qs.getD t 0 = kq at kc C
      generalize hmk2 : ms.getD t noneT = mt at C
      have HMT : Hid (ms.getD t noneT = mt) := hmk2
      clear hmk2
      have htl' : (t : Int) < (ms.length : Int) := by omega
      go_wp2_with fail
      refine C.out.mono ?_
      rintro e w2 ⟨gx, hx, rfl, hbx, hgx, hg2, hjx⟩
      have BX : Hid (BAt w2 gx hx N) := hbx
      have B2 : Hid (BAt w2 (W.heap.size + 1) ho N) := B.out.kept hg2 (by simp)
      have G2 : Hid (W.grownBy w2 none) := grown_trans G.out hg2
      have D2 : Hid (w2.cell? ⟨W.heap.size, 2, none⟩ = some (.slice (some ⟨gK, 0, none⟩) ms.length capK)) := cell_beside D.out hg2 (by simp)
      have HJX : Hid (∀ j, j < N → (hx j = true ↔ ∃ i, i < N ∧ h i = true ∧ mt z i j)) := hjx
      have hne : Hid (W.heap.size + 1 ≠ gx ∧ W.heap.size ≠ gx) := by
        have := B.out.lt
        show _ ∧ _
        omega
      clear hbx hg2 hjx B G D C kc hd
      go_wp2_with fail
      go_loopw [14] (fun v wq => ∃ (i : Nat), v = .int .i64 i ∧ i ≤ N ∧ BAt wq (W.heap.size + 1) (fun j => if j < i then ho j || hx j else ho j) N ∧ BAt wq gx hx N ∧ W.grownBy wq none ∧ wq.cell? ⟨W.heap.size, 2, none⟩ = some (.slice (some ⟨gK, 0, none⟩) ms.length capK)) (fun v _ => N - (intOf v).toNat)
      case atStart => exact ⟨0, rfl, by omega, B2.out.ext (fun i hi => by simp), BX.out, G2.out, D2.out⟩
      case round =>
        clear B2 BX G2 D2
        obtain ⟨i, rfl, hi, hb3, hb4, hg3, hd3⟩ := hrel
        by_cases hil : i < N
        · have hil' : (i : Int) < (N : Int) := by omega
          have oc := hb3.cell (i := i) hil
          have of1 := hb3.fz i
          have xc := hb4.cell (i := i) hil
          have xf := hb4.fz i
          simp only [Nat.lt_irrefl, if_false] at oc
          have B3 : Hid (∀ y : Bool, y = (ho i || hx i) → BAt (wr.setCell ⟨W.heap.size + 1, i, none⟩ (.bool y)) (W.heap.size + 1) (fun j => if j < i + 1 then ho j || hx j else ho j) N) := by
            intro y hy
            refine (hb3.set i y).ext fun j hj => ?_
            by_cases hji : j = i
            · subst hji; simp [hy]
            · have : j < i + 1 ↔ j < i := by omega
              simp only [this, hji, if_false]
          have X3 : Hid (∀ y : Bool, BAt (wr.setCell ⟨W.heap.size + 1, i, none⟩ (.bool y)) gx hx N) := fun y => hb4.kept (grown_set _ _ _) (by have := hne.out.1; simpa using this)
          have G3 : Hid (∀ y : Bool, W.grownBy (wr.setCell ⟨W.heap.size + 1, i, none⟩ (.bool y)) none) := fun y => grown_new hg3 (grown_set _ _ _) (by simp)
          have D3 : Hid (∀ y : Bool, (wr.setCell ⟨W.heap.size + 1, i, none⟩ (.bool y)).cell? ⟨W.heap.size, 2, none⟩ = some (.slice (some ⟨gK, 0, none⟩) ms.length capK)) := fun y => cell_beside hd3 (grown_set _ _ _) (by simp)
          clear hb3 hb4 hg3 hd3
          generalize ho i = y0 at *
          generalize hx i = y1 at *
          cases y0 with
          | true =>
            go_wp2_with fail
            go_roundw
            case rel => exact ⟨i + 1, by go_num, by omega, B3.out true (by simp), X3.out _, G3.out _, D3.out _⟩
            case measure => simp [intOf]; omega
          | false =>
            go_wp2_with fail
            go_roundw
            case rel => exact ⟨i + 1, by go_num, by omega, B3.out y1 (by simp), X3.out _, G3.out _, D3.out _⟩
            case measure => simp [intOf]; omega
        · have hil' : ¬ (i : Int) < (N : Int) := by omega
          have B4 : Hid (BAt wr (W.heap.size + 1) (fun j => if j < i then ho j || hx j else ho j) N) := hb3
          have G4 : Hid (W.grownBy wr none) := hg3
          have D4 : Hid (wr.cell? ⟨W.heap.size, 2, none⟩ = some (.slice (some ⟨gK, 0, none⟩) ms.length capK)) := hd3
          clear hb3 hb4 hg3 hd3
          go_wp2_with fail
          go_roundw
          case rel =>
            refine ⟨t + 1, _, by go_num, by omega, B4.out, G4.out, D4.out, fun j hj => ?_⟩
            show (if j < i then ho j || hx j else ho j) = true ↔ _
            rw [if_pos (by omega), Bool.or_eq_true, HJ.out j hj, HJX.out j hj]
            constructor
            · rintro (⟨q, h1, h2, r, h3, h4⟩ | ⟨q, h1, h2, h3⟩)
              · exact ⟨q, h1, h2, r, by omega, h4⟩
              · exact ⟨q, h1, h2, t, by omega, by rw [HMT.out]; exact h3⟩
            · rintro ⟨q, h1, h2, r, h3, h4⟩
              by_cases hrt : r = t
              · subst hrt
                rw [HMT.out] at h4
                exact .inr ⟨q, h1, h2, h4⟩
              · exact .inl ⟨q, h1, h2, r, by omega, h4⟩
          case measure => simp [intOf]; omega
    · have htt : t = ms.length := by omega
      have htl' : ¬ (t : Int) < (ms.length : Int) := by omega
      have E : Hid (Ended z N W (eitherT ms) h (.returned (.slice (some ⟨W.heap.size + 1, 0, none⟩) N N)) wr) := ⟨_, ho, rfl, B.out, by omega, G.out, fun j hj => by rw [HJ.out j hj, htt]; rfl⟩
      clear B G D
      go_wp2_with fail
      go_ret
      exact E.out

set_option maxHeartbeats 1600000 in
set_option maxRecDepth 100000 in
theorem ends_row (ps : List PartR) (L : Value) (k : Nat) (p : PartR) (qs : List Nat) (ms : List SenseT) (hk : ps[k]? = some p) (hkind : p.kind = 4) (h0 : 0 < ms.length) (hq : p.kids = qs.map Int.ofNat) (hl : qs.length = ms.length) (hml : ms.length ≤ 4001) (a : Option Addr) (cap : Nat) (z : List Int) (N : Nat) (hN : N = z.length + 1) (hn : z.length ≤ 60) (gf : Nat) (h : Nat → Bool) (W : World) (hL : PL W L ps) (hps : ps.length ≤ 13000) (hf : BAt W gf h N) (hA : ∀ t, t < ms.length → Ahead (ms.getD t noneT))
    (hS : ∀ (t : Nat), t < ms.length → ∀ (W' : World) (gf' : Nat) (h' : Nat → Bool), W.grownBy W' none → BAt W' gf' h' N → Calls Try.prog 20 #[L, .int .i64 (qs.getD t 0 : Nat), .slice a z.length cap, .slice (some ⟨gf', 0, none⟩) N N] W' (Ended z N W' (ms.getD t noneT) h')) :
    Calls Try.prog 20 #[L, .int .i64 k, .slice a z.length cap, .slice (some ⟨gf, 0, none⟩) N N] W (Ended z N W (rowT ms) h) := by
  obtain ⟨g, capL, rfl, c0, c1, c2⟩ := hL.get hk
  have hlt := (List.getElem?_eq_some_iff.1 hk).1
  have hlt' : (k : Int) < (ps.length : Int) := by omega
  have HN : Hid (N = z.length + 1) := hN
  have hN1 : z.length < N := by omega
  have hN2 : N ≤ 61 := by omega
  have hN3 : (N : Int) ≤ 61 := by omega
  obtain ⟨gK, capK, hkv, hkc⟩ : ∃ gK capK, p.kv = .slice (some ⟨gK, 0, none⟩) ms.length capK ∧ ∀ t, t < ms.length → W.cell? ⟨gK, t, none⟩ = some (.int .i64 (qs.getD t 0 : Nat)) := by
    have hkl : p.kids.length = ms.length := by rw [hq, List.length_map, hl]
    rcases (hL.at_ p (List.mem_of_getElem? hk)).2 with h1 | ⟨gK, capK, _, h1, h2⟩
    · rw [h1] at hkl; simp at hkl; omega
    · refine ⟨gK, capK, by rw [h1, hkl], fun t ht => ?_⟩
      rw [h2 t (by omega), hq]
      simp [List.getD, hl, ht]
  rw [hkind] at c0
  rw [hkv] at c2
  have HKC : Hid (∀ t, t < ms.length → W.cell? ⟨gK, t, none⟩ = some (.int .i64 (qs.getD t 0 : Nat))) := hkc
  have HS : Hid (∀ (t : Nat), t < ms.length → ∀ (W' : World) (gf' : Nat) (h' : Nat → Bool), W.grownBy W' none → BAt W' gf' h' N → Calls Try.prog 20 #[.slice (some ⟨g, 0, none⟩) ps.length capL, .int .i64 (qs.getD t 0 : Nat), .slice a z.length cap, .slice (some ⟨gf', 0, none⟩) N N] W' (Ended z N W' (ms.getD t noneT) h')) := hS
  have F1 : Hid (BAt W gf h N) := hf
  have hmk := bmake (W.alloc (.cells #[.int .i64 4, .int .i64 p.let_, .slice (some ⟨gK, 0, none⟩) ms.length capK] 67)) N hN2
  have G1 : Hid (W.grownBy ((W.alloc (.cells #[.int .i64 4, .int .i64 p.let_, .slice (some ⟨gK, 0, none⟩) ms.length capK] 67)).alloc (.cells (Array.replicate N (Value.bool false)) 4)) none) := grown_trans (World.grownBy_alloc _ _ _) (World.grownBy_alloc _ _ _)
  have B1 : Hid (BAt ((W.alloc (.cells #[.int .i64 4, .int .i64 p.let_, .slice (some ⟨gK, 0, none⟩) ms.length capK] 67)).alloc (.cells (Array.replicate N (Value.bool false)) 4)) (W.heap.size + 1) (fun _ => false) N) := by
    have := BAt.made (W.alloc (.cells #[.int .i64 4, .int .i64 p.let_, .slice (some ⟨gK, 0, none⟩) ms.length capK] 67)) N
    have e : (W.alloc (.cells #[.int .i64 4, .int .i64 p.let_, .slice (some ⟨gK, 0, none⟩) ms.length capK] 67)).heap.size = W.heap.size + 1 := by simp
    rw [e] at this
    exact this
  have D1 : Hid (((W.alloc (.cells #[.int .i64 4, .int .i64 p.let_, .slice (some ⟨gK, 0, none⟩) ms.length capK] 67)).alloc (.cells (Array.replicate N (Value.bool false)) 4)).cell? ⟨W.heap.size, 2, none⟩ = some (.slice (some ⟨gK, 0, none⟩) ms.length capK)) := by
    show World.cell? _ _ = _
    rw [World.cell?_alloc_lt _ _ _ (by simp)]
    simp
  obtain ⟨W', hcp, HB, HG⟩ := bcopy B1.out (hf.kept G1.out (by simp)) hN2
  have G2 : Hid (W.grownBy W' none) := grown_new G1.out HG.out (by omega)
  have D2 : Hid (W'.cell? ⟨W.heap.size, 2, none⟩ = some (.slice (some ⟨gK, 0, none⟩) ms.length capK)) := cell_beside D1.out HG.out (by simp)
  have HA : Hid (∀ t, t < ms.length → Ahead (ms.getD t noneT)) := hA
  have d2 := D2.out
  clear hkv hL hk hN hf hS hkc hq B1 G1 D1 HG hA
  go_enter Try.func20, Try.ntmps20
  go_wp2_with fail
  go_loopw [10, 15] (fun v10 v wr => ∃ (t go : Nat) (ho : Nat → Bool), v = .int .i64 t ∧ v10 = .slice (some ⟨go, 0, none⟩) N N ∧ W.heap.size ≤ go ∧ t ≤ ms.length ∧ BAt wr go ho N ∧ W.grownBy wr none ∧ wr.cell? ⟨W.heap.size, 2, none⟩ = some (.slice (some ⟨gK, 0, none⟩) ms.length capK) ∧ ∀ j, j < N → (ho j = true ↔ ∃ i, i < N ∧ h i = true ∧ rowT (ms.take t) z i j)) (fun _ v _ => ms.length - (intOf v).toNat)
  case atStart => exact ⟨0, W.heap.size + 1, h, rfl, rfl, by omega, by omega, HB.out, G2.out, D2.out, fun j hj => by simp [rowT, emptyT]; intro _; omega⟩
  case round =>
    clear HB G2 D2 d2
    obtain ⟨t, go, ho, rfl, rfl, hgo, ht, hb, hg, hd, hj⟩ := hrel
    have HJ : Hid (∀ j, j < N → (ho j = true ↔ ∃ i, i < N ∧ h i = true ∧ rowT (ms.take t) z i j)) := hj
    have G : Hid (W.grownBy wr none) := hg
    by_cases htl : t < ms.length
    · have kc := G.out.cell (HKC.out t htl) (by simp)
      have C : Hid (Calls Try.prog 20 #[.slice (some ⟨g, 0, none⟩) ps.length capL, .int .i64 (qs.getD t 0 : Nat), .slice a z.length cap, .slice (some ⟨go, 0, none⟩) N N] wr (Ended z N wr (ms.getD t noneT) ho)) := HS.out t htl wr go ho G.out hb
      generalize qs.getD t 0 = kq at kc C
      generalize hmk2 : ms.getD t noneT = mt at C
      have HMT : Hid (ms.getD t noneT = mt) := hmk2
      have htl' : (t : Int) < (ms.length : Int) := by omega
      clear hmk2 hb hg hj
      go_wp2_with fail
      refine C.out.mono ?_
      rintro e w2 ⟨gx, hx, rfl, hbx, hgx, hg2, hjx⟩
      have BX : Hid (BAt w2 gx hx N) := hbx
      have G2 : Hid (W.grownBy w2 none) := grown_trans G.out hg2
      have D2 : Hid (w2.cell? ⟨W.heap.size, 2, none⟩ = some (.slice (some ⟨gK, 0, none⟩) ms.length capK)) := cell_beside hd hg2 (by simp)
      have HJX : Hid (∀ j, j < N → (hx j = true ↔ ∃ i, i < N ∧ ho i = true ∧ mt z i j)) := hjx
      have hgx' : W.heap.size ≤ gx := Nat.le_trans G.out.size hgx
      clear hbx hg2 hjx G C kc hd
      go_wp2_with fail
      go_roundw
      case rel =>
        refine ⟨t + 1, gx, hx, by go_num, rfl, hgx', by omega, BX.out, G2.out, D2.out, fun j hj => ?_⟩
        have etake : ms.take (t + 1) = ms.take t ++ [mt] := by
          rw [List.take_add_one, ← HMT.out]
          simp [List.getD, htl]
        have hah : Ahead (rowT (ms.take t)) := rowT_ahead fun q hq => by
          have hq' : q < t := by simp at hq; omega
          have := HA.out q (by omega)
          have e : (ms.take t).getD q noneT = ms.getD q noneT := by simp [List.getD, hq']
          rw [e]; exact this
        have hNN := HN.out
        rw [HJX.out j hj, etake]
        constructor
        · rintro ⟨q, h1, h2, h3⟩
          obtain ⟨i, h4, h5, h6⟩ := (HJ.out q h1).1 h2
          exact ⟨i, h4, h5, (rowT_snoc _ _ _ _ _).2 ⟨q, h6, h3⟩⟩
        · rintro ⟨i, h4, h5, h6⟩
          obtain ⟨q, h7, h8⟩ := (rowT_snoc _ _ _ _ _).1 h6
          have hqn := (hah z i q (by omega) h7).2
          exact ⟨q, by omega, (HJ.out q (by omega)).2 ⟨i, h4, h5, h7⟩, h8⟩
      case measure => simp [intOf]; omega
    · have htt : t = ms.length := by omega
      have htl' : ¬ (t : Int) < (ms.length : Int) := by omega
      have E : Hid (Ended z N W (rowT ms) h (.returned (.slice (some ⟨go, 0, none⟩) N N)) wr) := ⟨_, ho, rfl, hb, hgo, G.out, fun j hj => by rw [HJ.out j hj, htt, List.take_length]⟩
      clear hb hg hj G
      go_wp2_with fail
      go_ret
      exact E.out

end Go.Proofs.Yticmfgclkepgoaa
