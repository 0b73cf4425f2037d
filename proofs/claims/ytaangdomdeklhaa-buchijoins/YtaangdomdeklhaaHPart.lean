/- Classes are parted by a list of states. -/
import Derived.Test.YtaangdomdeklhaaHCut
namespace Go.Proofs.Ytaangdomdeklhaa
open Go.RowKit
set_option linter.unusedVariables false

def PartPost (B bc n K : Nat) (o p c b e k : Nat → Nat) (S : List Nat) (g0 q0 g1 q1 g2 q2 : Nat) (r : List Item) (w : World) (E : Ending) (w' : World) : Prop :=
  ∃ (K' : Nat) (o' p' c' b' e' k' : Nat → Nat) (g3 q3 g4 q4 g5 q5 : Nat), E = .returned (.tuple #[]) ∧ Owns B w' (clsIts bc n K' K' K' o' p' c' b' e' k' g0 q0 g1 q1 g2 q2 g3 q3 g4 q4 g5 q5 r) ∧
    Parted n K' o' p' c' b' e' ∧ (∀ j, j < K' → k' j = 0) ∧ PartOf n K c (· ∈ S) K' c' ∧ Keeps B w w'

section
variable {B : Nat} {w w' : World} {x1 x2 x3 x4 x5 x6 x7 x8 : Item} {r : List Item}
theorem at_8 (h : Owns B w (x1 :: x2 :: x3 :: x4 :: x5 :: x6 :: x7 :: x8 :: r)) : Owns B w (x8 :: x1 :: x2 :: x3 :: x4 :: x5 :: x6 :: x7 :: r) := h.perm (List.perm_middle (l₁ := [x1, x2, x3, x4, x5, x6, x7]))
theorem to_8 (h : Owns B w (x8 :: x1 :: x2 :: x3 :: x4 :: x5 :: x6 :: x7 :: r)) : Owns B w (x1 :: x2 :: x3 :: x4 :: x5 :: x6 :: x7 :: x8 :: r) := h.perm (List.perm_middle (l₁ := [x1, x2, x3, x4, x5, x6, x7])).symm
end
theorem natInts_len (xs : List Nat) : (vals (natInts xs)).length = xs.length := by simp [vals]

set_option maxHeartbeats 1600000 in
set_option maxRecDepth 100000 in
theorem part_any (B bc n K : Nat) (o p c b e k : Nat → Nat) (S : List Nat) (aS : Option Addr) (cS : Nat) (g0 q0 g1 q1 g2 q2 g3 q3 g4 q4 g5 q5 : Nat) (r : List Item) (w : World)
    (h : Owns B w (clsIts bc n K K K o p c b e k g0 q0 g1 q1 g2 q2 g3 q3 g4 q4 g5 q5 r)) (hP : Parted n K o p c b e) (hk : ∀ j, j < K → k j = 0) (hn : n ≤ 3000)
    (hm : (3, Value.slice aS S.length cS, vals (natInts S)) ∈ r) (hS : ∀ s, s ∈ S → s < n) (hnd : S.Nodup) :
    Calls Try.prog 64 #[.pointer (some ⟨bc, 0, none⟩), .slice aS S.length cS] w (PartPost B bc n K o p c b e k S g0 q0 g1 q1 g2 q2 r w) := by
  have hSl : S.length ≤ n := nodup_le n S hnd hS
  have hK : K ≤ 3000 := Nat.le_trans hP.le hn
  have HS : Hid (∀ s, s ∈ S → s < n) := hS
  have HN : Hid (S.Nodup) := hnd
  have HM : Hid ((3, Value.slice aS S.length cS, vals (natInts S)) ∈ r) := hm
  have O0 : Hid (Owns B w (clsIts bc n K K K o p c b e k g0 q0 g1 q1 g2 q2 g3 q3 g4 q4 g5 q5 ((3, .slice none 0 0, vals (natInts [])) :: r))) := to_8 (h.empty 3)
  have P0 : Hid (Picking n K o p c b e k [] []) := Picking.start hP hk
  have HBsz : Hid (B ≤ w.heap.size) := Nat.le_trans h.ge.1 (Nat.le_of_lt h.ge.2)
  clear h hP hk hS hnd hm
  obtain ⟨i0, hio, hz0, hz1, hz2⟩ := info_parts Try.info3i
  go_enter Try.func64, Try.ntmps64
  go_wp2_with fail
  go_loopw [4, 13] (fun v4 v13 wr => ∃ (t : Nat) (o p k : Nat → Nat) (T : List Nat) (aT : Option Addr) (cT : Nat), v4 = .slice aT T.length cT ∧ v13 = .int .i64 t ∧ t ≤ S.length ∧ Picking n K o p c b e k (S.take t) T ∧ Owns B wr (clsIts bc n K K K o p c b e k g0 q0 g1 q1 g2 q2 g3 q3 g4 q4 g5 q5 ((3, .slice aT T.length cT, vals (natInts T)) :: r)) ∧ Keeps B w wr) (fun _ v13 _ => S.length - (intOf v13).toNat)
  case atStart => exact ⟨0, o, p, k, [], none, 0, rfl, rfl, by omega, by simpa using P0.out, O0.out, Keeps.refl _ _⟩
  case round =>
    clear O0 P0
    obtain ⟨t, o, p, k, T, aT, cT, rfl, rfl, ht, hPk, ho, hkp⟩ := hrel
    have PK : Hid (Picking n K o p c b e k (S.take t) T) := hPk
    have O : Hid (Owns B wr (clsIts bc n K K K o p c b e k g0 q0 g1 q1 g2 q2 g3 q3 g4 q4 g5 q5 ((3, .slice aT T.length cT, vals (natInts T)) :: r))) := ho
    have KP : Hid (Keeps B w wr) := hkp
    clear hPk ho hkp
    have hTl : T.length ≤ K := nodup_le K T PK.out.nd (fun j hj => ((PK.out.tl j).1 hj).1)
    by_cases htl : t < S.length
    · obtain ⟨s, hs⟩ : ∃ s, S.getD t 0 = s := ⟨_, rfl⟩
      have hsS : s ∈ S := hs ▸ getD_mem htl
      have hsn : s < n := HS.out s hsS
      have hsT : s ∉ S.take t := by
        intro hc
        obtain ⟨j, hj, e1⟩ := List.getElem_of_mem hc
        have hj2 : j < t ∧ j < S.length := by simp at hj; omega
        rw [List.getElem_take] at e1
        have e2 : S[t] = s := by rw [← hs]; simp [List.getD, htl]
        have := (List.nodup_iff_pairwise_ne.1 HN.out)
        rw [List.pairwise_iff_getElem] at this
        exact this j t hj2.2 htl hj2.1 (by rw [e1, e2])
      have HTk : Hid (S.take (t + 1) = S.take t ++ [s]) := by
        show _ = _
        rw [List.take_add_one, ← hs]; simp [List.getD, htl]
      obtain ⟨t1, t2, t3, t4⟩ := PK.out.to hsn hsT
      have hjK := PK.out.parted.ck s hsn
      have hen := PK.out.parted.en _ hjK
      have hpsn : p s < n := PK.out.parted.pn s hsn
      have hton : b (c s) + k (c s) < n := by omega
      have hotn := t4
      obtain ⟨to_, hto_⟩ : ∃ to_, b (c s) + k (c s) = to_ := ⟨_, rfl⟩
      have HTo : Hid (b (c s) + k (c s) = to_) := hto_
      obtain ⟨gs, rfl⟩ := O.out.formM (List.mem_append_right [_, _, _, _, _, _, _, _] HM.out) (by rw [natInts_len]; omega)
      have xs0 := O.out.cellM (List.mem_append_right [_, _, _, _, _, _, _, _] HM.out) (natInts_get htl)
      rw [hs] at xs0
      have x2 := (cls_box O.out).2.2.1
      have x5 := (cls_box O.out).2.2.2.2.2.1
      have xc := (at_4 O.out).cell (fvals_get (f := c) hsn)
      have xk := (at_7 O.out).cell (fvals_get (f := k) hjK)
      have pk1 := PK.out.step hsn hsT
      rw [← HTk.out] at pk1
      have hti : (t : Int) < (S.length : Int) := by omega
      have hsi : (s : Int) < (n : Int) := by omega
      have hji : ((c s : Nat) : Int) < (K : Int) := by omega
      clear hs HTk hto_
      by_cases hk0 : k (c s) = 0
      · have HKj : Hid (k (c s) = 0) := hk0
        have HAr : Hid (((b (c s) : Nat) : Int) = (to_ : Int)) := by show _ = _; rw [← HTo.out, hk0]; omega
        have hwr : IntKind.i64.wrap ((b (c s) : Nat) : Int) = ((b (c s) : Nat) : Int) := by
          rw [IntKind.wrap_i64]; omega
        rw [hk0] at xk
        rw [if_pos hk0] at pk1
        have PK1 : Hid _ := pk1
        clear pk1 hk0
        have hO : Hid (∀ ob, (wr.alloc ob).ownsRow B 3 1 (.slice aT T.length cT) T.length (vals (natInts T))) := fun ob => by
          have h2 := (at_8 (O.out.kept (grown_alloc wr ob))).row
          rwa [natInts_len] at h2
        have HSz : Hid (B ≤ wr.heap.size) := Nat.le_trans O.out.ge.1 (Nat.le_of_lt O.out.ge.2)
        have HE : Hid ((T ++ [c s]).length = T.length + 1) := by show _ = _; simp
        go_wp2_with (at_builtin; refine wpList_append_lies _ rfl _ _ 22 rfl B 3 i0 (.int .i64 0) 1 8 Try.underlying22 hio hz0 hz1 hz2 rfl (by decide) (.slice aT T.length cT) T.length _ rfl (hO.out _) ⟨wr.heap.size, 0, none⟩ 1 1 [.int .i64 ((c s : Nat) : Int)] rfl rfl (cell_one_new _ _ _) (by intro u hu; simp at hu; subst hu; rfl) (by omega) (by unfold maxLen; omega) (by omega) (by have := HSz.out; simp only [World.size_alloc]; omega) (wr.heap.size + 1) (by rw [World.size_alloc]) ?_; intro ga ca wa hoa hga hata _; have OA : Hid (Owns B wa (clsIts bc n K K K o p c b e k g0 q0 g1 q1 g2 q2 g3 q3 g4 q4 g5 q5 ((3, .slice (some ⟨ga, 0, none⟩) (T.length + 1) ca, vals (natInts (T ++ [c s]))) :: r))) := (by have h1 := to_8 ((at_8 (O.out.kept (grown_alloc wr _))).append hoa (by simp) hga hata (by rw [World.size_alloc])); rw [natInts_snoc] at h1; exact h1); have KA : Hid (Keeps B w wa) := ((KP.out.alloc _).trans (Keeps.first (at_8 (O.out.kept (grown_alloc wr _))) hga)); clear hoa hga hata)
        have y3 := (cls_box OA.out).2.2.2.1
        have y5 := (cls_box OA.out).2.2.2.2.2.1
        have yb := (at_5 OA.out).cell (fvals_get (f := b) hjK)
        have yk := (at_7 OA.out).cell (fvals_get (f := k) hjK)
        rw [HKj.out] at yk
        have HMv : Hid (∀ W, wa.grownBy W none → Calls Try.prog 70 #[.pointer (some ⟨bc, 0, none⟩), .int .i64 (s : Int), .int .i64 ((b (c s) : Nat) : Int)] W (MovePost B bc n K o p c b e k g0 q0 g1 q1 g2 q2 g3 q3 g4 q4 g5 q5 ((3, .slice (some ⟨ga, 0, none⟩) (T.length + 1) ca, vals (natInts (T ++ [c s]))) :: r) s (b (c s) + k (c s)) W)) := fun W hW => by
          have h1 := move_any B bc n K o p c b e k g0 q0 g1 q1 g2 q2 g3 q3 g4 q4 g5 q5 ((3, .slice (some ⟨ga, 0, none⟩) (T.length + 1) ca, vals (natInts (T ++ [c s]))) :: r) s (b (c s) + k (c s)) W (OA.out.kept hW) hn hsn hton hpsn hotn
          rw [HTo.out] at h1 ⊢
          rw [HAr.out]
          exact h1
        go_wp2_with fail
        go_region_law (go_simp; go_at_call 70; refine (HMv.out _ ?_).mono ?_; (first | exact grown_refl _ _ | exact grown_drew (grown_refl _ _) | exact grown_drewN (grown_refl _ _) _); rintro E w2 ⟨rfl, ho2, hk2⟩; have O2 : Hid (Owns B w2 (clsIts bc n K K K (upd (upd o (p s) (o (b (c s) + k (c s)))) (b (c s) + k (c s)) s) (upd (upd p (o (b (c s) + k (c s))) (p s)) s (b (c s) + k (c s))) c b e k g0 q0 g1 q1 g2 q2 g3 q3 g4 q4 g5 q5 ((3, .slice (some ⟨ga, 0, none⟩) (T.length + 1) ca, vals (natInts (T ++ [c s]))) :: r))) := ho2; have K2 : Hid (Keeps B w w2) := (KA.out.trans (Keeps.trans (by first | exact Keeps.refl _ _ | exact (Keeps.refl _ _).drew | exact (Keeps.refl _ _).drewN _) hk2)))
        all_goals
          have z5 := (cls_box O2.out).2.2.2.2.2.1
          have zk := (at_7 O2.out).cell (fvals_get (f := k) hjK)
          rw [HKj.out] at zk
          have zf := (at_7 O2.out).fz (c s)
          have O3 : Hid (Owns B (w2.setCell ⟨g5, c s, none⟩ (.int .i64 1)) (clsIts bc n K K K (upd (upd o (p s) (o (b (c s) + k (c s)))) (b (c s) + k (c s)) s) (upd (upd p (o (b (c s) + k (c s))) (p s)) s (b (c s) + k (c s))) c b e (upd k (c s) (k (c s) + 1)) g0 q0 g1 q1 g2 q2 g3 q3 g4 q4 g5 q5 ((3, .slice (some ⟨ga, 0, none⟩) (T.length + 1) ca, vals (natInts (T ++ [c s]))) :: r))) := by
            have h1 := cls_setK (x := k (c s) + 1) O2.out hjK
            have ec : ((k (c s) + 1 : Nat) : Int) = 1 := by have := HKj.out; omega
            rw [ec] at h1
            exact h1
          have K3 : Hid (Keeps B w (w2.setCell ⟨g5, c s, none⟩ (.int .i64 1))) := K2.out.set (at_7 O2.out).ge.1 _ _
          clear O2 K2 ho2 hk2
          go_wp2_with fail
          go_roundw
          case rel => exact ⟨t + 1, _, _, _, T ++ [c s], some ⟨ga, 0, none⟩, ca, by rw [HE.out], by go_num, by omega, PK1.out, by rw [HE.out]; exact O3.out, K3.out⟩
          case measure => simp [intOf]; omega
      · obtain ⟨kj, hkj⟩ : ∃ kj, k (c s) = kj := ⟨_, rfl⟩
        have HKj : Hid (k (c s) = kj) := hkj
        have HAr : Hid ((to_ : Int) = (to_ : Int)) := (rfl : (to_ : Int) = (to_ : Int))
        have hwr : IntKind.i64.wrap (((b (c s) : Nat) : Int) + ((kj : Nat) : Int)) = (to_ : Int) := by
          have := HTo.out
          rw [IntKind.wrap_i64]; omega
        rw [hkj] at xk
        have hki : (((kj : Nat) : Int) == 0) = false := by simp; omega
        have hkb : kj ≤ n := by omega
        rw [if_neg hk0] at pk1
        have PK1 : Hid _ := pk1
        clear pk1 hk0 hkj
        have y3 := (cls_box O.out).2.2.2.1
        have y5 := (cls_box O.out).2.2.2.2.2.1
        have yb := (at_5 O.out).cell (fvals_get (f := b) hjK)
        have yk := (at_7 O.out).cell (fvals_get (f := k) hjK)
        rw [HKj.out] at yk
        have HMv : Hid (∀ W, wr.grownBy W none → Calls Try.prog 70 #[.pointer (some ⟨bc, 0, none⟩), .int .i64 (s : Int), .int .i64 (to_ : Int)] W (MovePost B bc n K o p c b e k g0 q0 g1 q1 g2 q2 g3 q3 g4 q4 g5 q5 ((3, .slice aT (T.length) cT, vals (natInts (T))) :: r) s (b (c s) + k (c s)) W)) := fun W hW => by
          have h1 := move_any B bc n K o p c b e k g0 q0 g1 q1 g2 q2 g3 q3 g4 q4 g5 q5 ((3, .slice aT (T.length) cT, vals (natInts (T))) :: r) s (b (c s) + k (c s)) W (O.out.kept hW) hn hsn hton hpsn hotn
          rw [HTo.out] at h1 ⊢
          rw [HAr.out]
          exact h1
        go_wp2_with fail
        go_region_law (go_simp; go_at_call 70; refine (HMv.out _ ?_).mono ?_; (first | exact grown_refl _ _ | exact grown_drew (grown_refl _ _) | exact grown_drewN (grown_refl _ _) _); rintro E w2 ⟨rfl, ho2, hk2⟩; have O2 : Hid (Owns B w2 (clsIts bc n K K K (upd (upd o (p s) (o (b (c s) + k (c s)))) (b (c s) + k (c s)) s) (upd (upd p (o (b (c s) + k (c s))) (p s)) s (b (c s) + k (c s))) c b e k g0 q0 g1 q1 g2 q2 g3 q3 g4 q4 g5 q5 ((3, .slice aT (T.length) cT, vals (natInts (T))) :: r))) := ho2; have K2 : Hid (Keeps B w w2) := (KP.out.trans (Keeps.trans (by first | exact Keeps.refl _ _ | exact (Keeps.refl _ _).drew | exact (Keeps.refl _ _).drewN _) hk2)))
        all_goals
          have z5 := (cls_box O2.out).2.2.2.2.2.1
          have zk := (at_7 O2.out).cell (fvals_get (f := k) hjK)
          rw [HKj.out] at zk
          have zf := (at_7 O2.out).fz (c s)
          have O3 : Hid (Owns B (w2.setCell ⟨g5, c s, none⟩ (.int .i64 (((kj : Nat) : Int) + 1))) (clsIts bc n K K K (upd (upd o (p s) (o (b (c s) + k (c s)))) (b (c s) + k (c s)) s) (upd (upd p (o (b (c s) + k (c s))) (p s)) s (b (c s) + k (c s))) c b e (upd k (c s) (k (c s) + 1)) g0 q0 g1 q1 g2 q2 g3 q3 g4 q4 g5 q5 ((3, .slice aT (T.length) cT, vals (natInts (T))) :: r))) := by
            have h1 := cls_setK (x := k (c s) + 1) O2.out hjK
            have ec : ((k (c s) + 1 : Nat) : Int) = (((kj : Nat) : Int) + 1) := by have := HKj.out; omega
            rw [ec] at h1
            exact h1
          have K3 : Hid (Keeps B w (w2.setCell ⟨g5, c s, none⟩ (.int .i64 (((kj : Nat) : Int) + 1)))) := K2.out.set (at_7 O2.out).ge.1 _ _
          clear O2 K2 ho2 hk2
          go_wp2_with fail
          go_roundw
          case rel => exact ⟨t + 1, _, _, _, T, aT, cT, rfl, by go_num, by omega, PK1.out, O3.out, K3.out⟩
          case measure => simp [intOf]; omega
    · have hti : ¬ (t : Int) < (S.length : Int) := by omega
      have hTS : S.take t = S := List.take_of_length_le (by omega)
      rw [hTS] at PK
      have C0 : Hid (Cutting n K c S T K o p c b e k) := Cutting.start PK.out
      have HNT : Hid T.Nodup := PK.out.nd
      clear PK hTS
      go_wp2_with fail
      go_loopw [66] (fun v66 wr => ∃ (t Kc : Nat) (c' b' e' k' : Nat → Nat) (g3 q3 g4 q4 g5 q5 : Nat), v66 = .int .i64 t ∧ t ≤ T.length ∧ Cutting n K c S (T.drop t) Kc o p c' b' e' k' ∧ Owns B wr (clsIts bc n Kc Kc Kc o p c' b' e' k' g0 q0 g1 q1 g2 q2 g3 q3 g4 q4 g5 q5 ((3, .slice aT T.length cT, vals (natInts T)) :: r)) ∧ Keeps B w wr) (fun v66 _ => T.length - (intOf v66).toNat)
      case atStart => exact ⟨0, K, c, b, e, k, g3, q3, g4, q4, g5, q5, rfl, by omega, by simpa using C0.out, O.out, KP.out⟩
      case round =>
        clear O KP C0
        obtain ⟨t, Kc, c', b', e', k', g3, q3, g4, q4, g5, q5, rfl, ht2, hC, ho, hkp⟩ := hrel
        have O : Hid (Owns B wr (clsIts bc n Kc Kc Kc o p c' b' e' k' g0 q0 g1 q1 g2 q2 g3 q3 g4 q4 g5 q5 ((3, .slice aT T.length cT, vals (natInts T)) :: r))) := ho
        have KP : Hid (Keeps B w wr) := hkp
        have C : Hid (Cutting n K c S (T.drop t) Kc o p c' b' e' k') := hC
        have hKc : Kc ≤ n := hC.parted.le
        clear hC ho hkp
        by_cases htl2 : t < T.length
        · obtain ⟨j, hj⟩ : ∃ j, T.getD t 0 = j := ⟨_, rfl⟩
          have hdr : T.drop t = j :: T.drop (t + 1) := by
            rw [List.drop_eq_getElem_cons htl2, ← hj]; simp [List.getD, htl2]
          rw [hdr] at C
          obtain ⟨hj0, hjk, _⟩ := C.out.rest j (by simp)
          have hjK : j < Kc := Nat.lt_of_lt_of_le hj0 C.out.k0
          have hle := C.out.le j hjK
          have hen := C.out.parted.en j hjK
          obtain ⟨gt, rfl⟩ := O.out.formM (List.mem_append_right [_, _, _, _, _, _, _] List.mem_cons_self) (by rw [natInts_len]; omega)
          have xt := O.out.cellM (List.mem_append_right [_, _, _, _, _, _, _] List.mem_cons_self) (natInts_get htl2)
          rw [hj] at xt
          have x3 := (cls_box O.out).2.2.2.1
          have x5 := (cls_box O.out).2.2.2.2.2.1
          have xb := (at_5 O.out).cell (fvals_get (f := b') hjK)
          have xk := (at_7 O.out).cell (fvals_get (f := k') hjK)
          have xf := (at_7 O.out).fz j
          have O1 : Hid (Owns B (wr.setCell ⟨g5, j, none⟩ (.int .i64 0)) (clsIts bc n Kc Kc Kc o p c' b' e' (upd k' j 0) g0 q0 g1 q1 g2 q2 g3 q3 g4 q4 g5 q5 ((3, .slice (some ⟨gt, 0, none⟩) T.length cT, vals (natInts T)) :: r))) := cls_setK (x := 0) O.out hjK
          have K1 : Hid (Keeps B w (wr.setCell ⟨g5, j, none⟩ (.int .i64 0))) := KP.out.set (at_7 O.out).ge.1 _ _
          have y4 := (cls_box O1.out).2.2.2.2.1
          have ye := (at_6 O1.out).cell (fvals_get (f := e') hjK)
          obtain ⟨at_, hat_⟩ : ∃ at_, b' j + k' j = at_ := ⟨_, rfl⟩
          have HAt : Hid (b' j + k' j = at_) := hat_
          have hwr : IntKind.i64.wrap (((b' j : Nat) : Int) + ((k' j : Nat) : Int)) = (at_ : Int) := by
            rw [IntKind.wrap_i64]; omega
          have hti2 : (t : Int) < (T.length : Int) := by omega
          have hji : (j : Int) < (Kc : Int) := by omega
          have hat1 : b' j < at_ := by omega
          have hat2 : at_ ≤ e' j := by omega
          clear O KP hj hat_ hdr
          by_cases hae : at_ < e' j
          · have HC : Hid (∀ W, (wr.setCell ⟨g5, j, none⟩ (.int .i64 0)).grownBy W none → Calls Try.prog 71 #[.pointer (some ⟨bc, 0, none⟩), .int .i64 (j : Int), .int .i64 (at_ : Int)] W (CutPost B bc n Kc o p c' b' e' (upd k' j 0) g0 q0 g1 q1 g2 q2 ((3, .slice (some ⟨gt, 0, none⟩) T.length cT, vals (natInts T)) :: r) j at_ W)) := fun W hW =>
              cut_any B bc n Kc o p c' b' e' (upd k' j 0) g0 q0 g1 q1 g2 q2 g3 q3 g4 q4 g5 q5 _ j at_ W (O1.out.kept hW) C.out.parted hn hjK hat1 hae
            have C1 : Hid (∀ lo hi lo' hi', ((lo = b' j ∧ hi = at_ ∧ lo' = at_ ∧ hi' = e' j) ∨ (lo' = b' j ∧ hi' = at_ ∧ lo = at_ ∧ hi = e' j)) → Cutting n K c S (T.drop (t + 1)) (Kc + 1) o p (fun s => if lo ≤ p s ∧ p s < hi then Kc else c' s) (upd (upd b' j lo') Kc lo) (upd (upd e' j hi') Kc hi) (upd (upd k' j 0) Kc 0)) := fun lo hi lo' hi' hx => C.out.cut (by rw [HAt.out]; exact hae) (by rw [HAt.out]; exact hx)
            have haei : (at_ : Int) < ((e' j : Nat) : Int) := by omega
            clear C
            generalize b' j = bj at xb hwr hat1 hat2 hle
            generalize k' j = kj at xk hwr hle
            go_wp2_with fail
            go_region
            all_goals
              go_wp2_with fail
              refine (HC.out _ (grown_drew (grown_refl _ _))).mono ?_
              rintro E w3 ⟨lo, hi, lo', hi', g3', q3', g4', q4', g5', q5', hside, rfl, ho3, hk3⟩
              have C2 : Hid _ := C1.out lo hi lo' hi' hside
              have O3 : Hid _ := ho3
              have K3 : Hid (Keeps B w w3) := K1.out.drew.trans hk3
              clear ho3 hk3 hside C1 HC O1 K1
              go_wp2_with fail
              go_roundw
              case rel => exact ⟨t + 1, Kc + 1, _, _, _, _, g3', q3', g4', q4', g5', q5', by go_num, by omega, C2.out, O3.out, K3.out⟩
              case measure => simp [intOf]; omega
          · have C1 : Hid (Cutting n K c S (T.drop (t + 1)) Kc o p c' b' e' (upd k' j 0)) := C.out.stay (by rw [HAt.out]; exact hae)
            have haei : ¬ (at_ : Int) < ((e' j : Nat) : Int) := by omega
            clear C
            generalize b' j = bj at xb hwr hat1 hat2 hle
            generalize k' j = kj at xk hwr hle
            go_wp2_with fail
            go_region
            all_goals
              go_wp2_with fail
              go_roundw
              case rel => exact ⟨t + 1, Kc, _, _, _, _, g3, q3, g4, q4, g5, q5, by go_num, by omega, C1.out, O1.out.kept (grown_drew (grown_refl _ _)), K1.out.drew⟩
              case measure => simp [intOf]; omega
        · have hti2 : ¬ (t : Int) < (T.length : Int) := by omega
          have hdr : T.drop t = [] := List.drop_eq_nil_of_le (by omega)
          rw [hdr] at C
          have D : Hid _ := C.out.done
          have O9 : Hid _ := (at_8 O.out).tail
          clear O hdr C
          go_wp2_with fail
          go_end0
          exact ⟨Kc, o, p, c', b', e', k', g3, q3, g4, q4, g5, q5, rfl, O9.out, D.out.2.1, D.out.2.2, D.out.1, KP.out⟩

end Go.Proofs.Ytaangdomdeklhaa
