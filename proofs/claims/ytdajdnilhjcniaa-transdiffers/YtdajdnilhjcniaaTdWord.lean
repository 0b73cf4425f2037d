/- Whether two words are one; a word turned round; the word that leads to a meeting. -/
import Derived.Test.YtdajdnilhjcniaaTdMem
import Derived.Test.YtdajdnilhjcniaaTdSmall
import Derived.Test.YtdajdnilhjcniaaShelf
namespace Go.Proofs.Ytdajdnilhjcniaa
open Go.RowKit Go.Shelf
set_option linter.unusedVariables false
set_option linter.unusedSimpArgs false

theorem ext_getD {xs ys : List Int} (hl : xs.length = ys.length) (h : ∀ i, i < xs.length → xs.getD i 0 = ys.getD i 0) : xs = ys := by
  refine List.ext_getElem hl fun i h1 h2 => ?_
  have := h i h1
  rwa [List.getD, List.getD, List.getElem?_eq_getElem h1, List.getElem?_eq_getElem h2, Option.getD_some, Option.getD_some] at this

set_option maxHeartbeats 1600000 in
set_option maxRecDepth 100000 in
theorem equalI_any (v u : List Int) (a b : Option Addr) (c d : Nat) (w : World) (hv : Ints w a v) (hu : Ints w b u) (hm : v.length ≤ 1000) (hm' : u.length ≤ 1000) :
    Calls Try.prog 28 #[.slice a v.length c, .slice b u.length d] w (TellsB (v = u) w) := by
  have HV : Hid (Ints w a v) := hv
  have HU : Hid (Ints w b u) := hu
  clear hv hu
  by_cases el : v.length = u.length
  · have HE : Hid (v.length = u.length) := el
    have d0 : ((v.length : Int) != (u.length : Int)) = false := by simp [el]
    clear el
    go_enter Try.func28, Try.ntmps28
    go_wp2_with fail
    go_loopw [13] (fun t W => ∃ k : Nat, k ≤ v.length ∧ t = .int .i64 k ∧ w.grownBy W none ∧ ∀ j, j < k → v.getD j 0 = u.getD j 0) (fun t _ => v.length - (intOf t).toNat)
    case atStart => exact ⟨0, Nat.zero_le _, rfl, grown_refl _ _, fun j hj => by omega⟩
    case round =>
      obtain ⟨k, hk, rfl, hg, hj⟩ := hrel
      have HG : Hid (w.grownBy wr none) := hg
      have HJ : Hid (∀ j, j < k → v.getD j 0 = u.getD j 0) := hj
      clear hg hj
      by_cases h1 : k < v.length
      · have h2 : k < u.length := by have := HE.out; omega
        have i1 : (k : Int) < (v.length : Int) := by omega
        have i2 : (k : Int) < (u.length : Int) := by omega
        obtain ⟨b1, o1, rfl, hc1⟩ := (HV.out.grown HG.out).at h1
        obtain ⟨b2, o2, rfl, hc2⟩ := (HU.out.grown HG.out).at h2
        have x1 := hc1 k h1
        have x2 := hc2 k h2
        obtain ⟨z1, hz1⟩ : ∃ z, v.getD k 0 = z := ⟨_, rfl⟩
        obtain ⟨z2, hz2⟩ : ∃ z, u.getD k 0 = z := ⟨_, rfl⟩
        rw [hz1] at x1
        rw [hz2] at x2
        by_cases e : z1 = z2
        · have d1 : (z1 != z2) = false := by simpa using e
          have HN : Hid (∀ j, j < k + 1 → v.getD j 0 = u.getD j 0) := fun j hj => by
            by_cases hjk : j = k
            · subst hjk; rw [hz1, hz2]; exact e
            · exact HJ.out j (by omega)
          clear hz1 hz2 e hc1 hc2
          go_wp2_with fail
          go_quiet (fail)
          go_wp2_with fail
          go_roundw
          case rel => exact ⟨k + 1, by omega, by go_num, grown_drewN HG.out _, HN.out⟩
          case measure => simp [intOf]; omega
        · have d1 : (z1 != z2) = true := by simpa using e
          have HN : Hid (¬ v = u) := fun e2 => e (by rw [← hz1, ← hz2, e2])
          clear hz1 hz2 e hc1 hc2
          go_wp2_with fail
          go_quiet (fail)
          go_wp2_with fail
          go_ret
          exact tellsB false rfl ⟨(fun e => by cases e), fun e => absurd e HN.out⟩ (grown_drewN HG.out _)
      · have i1 : ¬ (k : Int) < (v.length : Int) := by omega
        have HN : Hid (v = u) := ext_getD HE.out fun i hi => HJ.out i (by omega)
        go_wp2_with fail
        go_ret
        exact tellsB true rfl ⟨fun _ => HN.out, fun _ => rfl⟩ HG.out
  · have d0 : ((v.length : Int) != (u.length : Int)) = true := by simp; omega
    have HN : Hid (¬ v = u) := fun e => el (by rw [e])
    clear el
    go_enter Try.func28, Try.ntmps28
    go_wp2_with fail
    go_ret
    exact tellsB false rfl ⟨(fun e => by cases e), fun e => absurd e HN.out⟩ (grown_refl _ _)

theorem grown_setCells (b : Nat) (vs : List Value) : ∀ (o : Nat) (w : World), w.grownBy (w.setCells b o vs) (some b) := by
  induction vs with
  | nil => intro o w; exact grown_refl _ _
  | cons v r ih => intro o w; exact grown_trans (grown_set w ⟨b, o, none⟩ v) (ih (o + 1) _)
def RevP (W1 W : World) (a : Option Addr) (zs : List Int) (e : Ending) (w' : World) : Prop := e = .returned (.tuple #[]) ∧ Ints w' a zs.reverse ∧ W1.grownBy w' none
theorem reverse_any {W1 W : World} {a : Option Addr} {c : Nat} {zs : List Int} (h : OwnW W1 W a c zs) (hl : zs.length ≤ 1000) : Calls Try.prog 29 #[.slice a zs.length c] W (RevP W1 W a zs) := by
  by_cases h0 : zs.length = 0
  · have e : zs = [] := List.length_eq_zero_iff.1 h0
    subst e
    refine (Any.slices_Reverse_int_empty Try.lays112 a c W).mono ?_
    rintro e w' ⟨rfl, rfl⟩
    exact ⟨rfl, .inl rfl, h.gr⟩
  · have hi := h.ints
    rcases h.own.2 with ⟨h1, h3⟩ | ⟨g, cap, cur, h1, h4, h5, _⟩
    · exact absurd h3 h0
    · simp only [Value.slice.injEq] at h1
      obtain ⟨rfl, _, rfl⟩ := h1
      have hc : ∀ j, j < zs.length → W.cell? ⟨g, 0 + j, none⟩ = some (.int .i64 (zs.getD j 0)) := fun j hj => by
        obtain ⟨b, off, hb, hcc⟩ := hi.at hj
        cases hb
        exact hcc j hj
      refine (Any.slices_Reverse_int_cells Try.lays112 g 0 zs.length c zs W (Nat.le_refl _) (by omega) hc (fun j hj => frozen_of_row _ _ _ _ _ h5)).mono ?_
      rintro e w' ⟨rfl, q, rfl⟩
      refine ⟨rfl, .inr ⟨g, 0, rfl, fun i hi' => ?_⟩, ?_⟩
      · rw [List.length_reverse] at hi'
        rw [List.take_length, World.cell?_setCells_in g _ 0 _ (fun j hj => by
          rw [List.length_map, List.length_reverse] at hj
          have := hc j hj
          rw [show (W.drewN q).cell? ⟨g, 0 + j, none⟩ = W.cell? ⟨g, 0 + j, none⟩ from rfl, this]; rfl) i (by simpa using hi')]
        simp [List.getD, hi']
      · exact grown_of_below ((below_of_grown (grown_drewN h.gr q)).grown (grown_setCells g _ 0 _) (grown_drewN h.gr q).size (fun k hk => by cases hk; exact h4))

/-- What a meeting tells of its word. -/
def MtIs (ws : List (List Nat)) (i : Nat) (m : Mt) : Prop := (m.fr = -1 ∧ ws.getD i [] = []) ∨ ∃ j l : Nat, j < i ∧ m.fr = (j : Int) ∧ m.l = (l : Int) ∧ ws.getD i [] = ws.getD j [] ++ [l]
def WordTP (z : List Nat) (w : World) (e : Ending) (w' : World) : Prop := ∃ a c, e = .returned (.slice a z.length c) ∧ Ints w' a (nsT z) ∧ w.grownBy w' none
theorem one_row (W : World) (z : Int) : ∃ W', W' = W.alloc (.cells #[.int .i64 z] 3) ∧ W.grownBy W' none ∧ Ints W' (some ⟨W.heap.size, 0, none⟩) [z] := by
  refine ⟨_, rfl, grown_alloc _ _, .inr ⟨W.heap.size, 0, rfl, fun i hi => ?_⟩⟩
  have e : i = 0 := by simpa using hi
  subst e
  have hb := heap_alloc_new W (.cells #[.int .i64 z] 3)
  rw [cell_of_row _ _ 0 _ _ (0, 0) hb]; rfl

attribute [local go_sem ↓] appY_fold in
set_option maxHeartbeats 3200000 in
set_option maxRecDepth 100000 in
theorem wordTo_any {W1 : World} (g c : Nat) (ms : List Mt) (ws : List (List Nat)) (i : Nat) (w : World) (h : OwnM W1 w g c ms) (hn : ∀ k, k < ms.length → MtIs ws k (ms.getD k mt0)) (hi : i < ms.length) (hl : ms.length ≤ 1000) (hz : (ws.getD i []).length ≤ 60) :
    Calls Try.prog 19 #[.slice (some ⟨g, 0, none⟩) ms.length c, .int .i64 (i : Int)] w (WordTP (ws.getD i []) w) := by
  have HM : Hid (OwnM W1 w g c ms) := h
  have HN : Hid (∀ k, k < ms.length → MtIs ws k (ms.getD k mt0)) := hn
  obtain ⟨z, hzz⟩ : ∃ z, ws.getD i [] = z := ⟨_, rfl⟩
  have HZ : Hid (ws.getD i [] = z) := hzz
  rw [hzz] at hz
  obtain ⟨Po, hPo⟩ : ∃ P, P = WordTP (ws.getD i []) w := ⟨_, rfl⟩
  have HP : Hid (∀ a k W, Ints W a (nsT z) → w.grownBy W none → Po (.returned (.slice a z.length k)) W) := fun a k W h1 h2 => by rw [hPo, HZ.out]; exact ⟨a, k, rfl, h1, h2⟩
  rw [← hPo]
  clear h hn hzz hPo
  go_enter Try.func19, Try.ntmps19
  go_wp2_with fail
  go_loopw [5, 1] (fun v5 v1 wr => ∃ (t : Nat) (zs : List Nat) (a : Option Addr) (k : Nat), t < ms.length ∧ v1 = .int .i64 (t : Int) ∧ v5 = .slice a (nsT zs).length k ∧ ws.getD t [] ++ zs.reverse = z ∧ OwnW w wr a k (nsT zs)) (fun _ v1 _ => (intOf v1).toNat)
  case atStart => exact ⟨i, [], none, 0, hi, rfl, rfl, by rw [HZ.out]; simp, OwnW.nil (grown_refl _ _)⟩
  case round =>
    obtain ⟨t, zs, a, k, ht, rfl, rfl, hw, ho⟩ := hrel
    have HO : Hid (OwnW w wr a k (nsT zs)) := ho
    have HW : Hid (ws.getD t [] ++ zs.reverse = z) := hw
    clear ho hw
    have it : (t : Int) < (ms.length : Int) := by omega
    obtain ⟨_, _, x2, x3, _, _⟩ := (HM.out.grown HO.out.gr).at ht
    rcases HN.out t ht with ⟨hf, he⟩ | ⟨j, l, hj, hf, hll, he⟩
    · rw [hf] at x2
      have ez : zs.reverse = z := by have := HW.out; rw [he] at this; simpa using this
      have hzl : zs.length ≤ 60 := by rw [← ez, List.length_reverse] at hz; exact hz
      have HR : Hid (Calls Try.prog 29 #[.slice a (nsT zs).length k] wr (RevP w wr a (nsT zs))) := reverse_any HO.out (by rw [nsT_len]; omega)
      have HF : Hid (∀ W, Ints W a (nsT zs).reverse → w.grownBy W none → Po (.returned (.slice a (nsT zs).length k)) W) := fun W h1 h2 => by
        have e1 : (nsT zs).reverse = nsT z := by rw [← ez]; simp [nsT]
        have e2 : (nsT zs).length = z.length := by rw [← ez]; simp [nsT]
        rw [e1] at h1
        rw [e2]
        exact HP.out a k W h1 h2
      clear hf he ez HP x3
      generalize (nsT zs).length = nn at *
      go_wp2_with fail
      refine HR.out.mono ?_
      rintro E w2 ⟨rfl, h1, h2⟩
      have F : Hid (Po (.returned (.slice a nn k)) w2) := HF.out w2 h1 h2
      clear h1 h2
      go_wp2_with fail
      first | exact F.out | (go_ret; exact F.out)
    · rw [hf] at x2
      rw [hll] at x3
      obtain ⟨W2, hW2, g2, i2⟩ := one_row wr (l : Int)
      have hzl : zs.length + 1 ≤ 60 := by
        have := congrArg List.length HW.out
        rw [he] at this
        simp only [List.length_append, List.length_reverse, List.length_singleton] at this
        omega
      obtain ⟨a1, k1, W3, hrun, o3⟩ := (HO.out.grown g2).put (d := 1) i2 (by simp [nsT_len]; omega)
      have e1 : nsT zs ++ [(l : Int)] = nsT (zs ++ [l]) := by simp [nsT]
      rw [e1] at hrun o3
      have HO3 : Hid (OwnW w W3 a1 k1 (nsT (zs ++ [l]))) := o3
      have HW3 : Hid (ws.getD j [] ++ (zs ++ [l]).reverse = z) := by
        show _ = _
        have := HW.out
        rw [he] at this
        rw [← this]
        simp
      obtain ⟨_, _, y2, _, _, _⟩ := (HM.out.grown o3.gr).at ht
      rw [hf] at y2
      rw [hW2] at hrun
      have ij : (0 : Int) ≤ (j : Int) := by omega
      simp only [List.length_cons, List.length_nil, Nat.zero_add] at hrun
      clear hf hll he hW2 g2 i2 o3 e1
      generalize (nsT zs).length = nn at *
      obtain ⟨n3, hn3⟩ : ∃ n, (nsT (zs ++ [l])).length = n := ⟨_, rfl⟩
      have HN3 : Hid ((nsT (zs ++ [l])).length = n3) := hn3
      rw [hn3] at hrun
      clear hn3
      go_wp2_with fail
      go_roundw
      case rel => exact ⟨j, zs ++ [l], a1, k1, by omega, rfl, by rw [HN3.out], HW3.out, HO3.out⟩
      case measure => simp [intOf]; omega

end Go.Proofs.Ytdajdnilhjcniaa
