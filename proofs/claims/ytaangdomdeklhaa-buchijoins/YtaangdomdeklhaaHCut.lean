/- A class is cut in two. -/
import Derived.Test.YtaangdomdeklhaaHMem
import Derived.Deep.RegionLaw
namespace Go.Proofs.Ytaangdomdeklhaa
open Go.RowKit
set_option linter.unusedVariables false

def CutPost (B bc n K : Nat) (o p c b e k : Nat → Nat) (g0 q0 g1 q1 g2 q2 : Nat) (r : List Item) (j at_ : Nat) (w : World) (E : Ending) (w' : World) : Prop :=
  ∃ lo hi lo' hi' g3 q3 g4 q4 g5 q5, ((lo = b j ∧ hi = at_ ∧ lo' = at_ ∧ hi' = e j) ∨ (lo' = b j ∧ hi' = at_ ∧ lo = at_ ∧ hi = e j)) ∧ E = .returned (.tuple #[]) ∧
    Owns B w' (clsIts bc n (K + 1) (K + 1) (K + 1) o p (fun s => if lo ≤ p s ∧ p s < hi then K else c s) (upd (upd b j lo') K lo) (upd (upd e j hi') K hi) (upd k K 0) g0 q0 g1 q1 g2 q2 g3 q3 g4 q4 g5 q5 r) ∧ Keeps B w w'

set_option maxHeartbeats 3200000 in
set_option maxRecDepth 100000 in
theorem cut_low (B bc n K : Nat) (o p c b e k : Nat → Nat) (g0 q0 g1 q1 g2 q2 g3 q3 g4 q4 g5 q5 : Nat) (r : List Item) (j at_ : Nat) (w : World)
    (h : Owns B w (clsIts bc n K K K o p c b e k g0 q0 g1 q1 g2 q2 g3 q3 g4 q4 g5 q5 r)) (hP : Parted n K o p c b e) (hn : n ≤ 3000) (hK : K ≤ 3000) (hj : j < K) (h1 : b j < at_) (h2 : at_ < e j) (hc : at_ - b j ≤ e j - at_) :
    Calls Try.prog 71 #[.pointer (some ⟨bc, 0, none⟩), .int .i64 (j : Int), .int .i64 (at_ : Int)] w (CutPost B bc n K o p c b e k g0 q0 g1 q1 g2 q2 r j at_ w) := by
  have b3 := (cls_box h).2.2.2.1
  have b4 := (cls_box h).2.2.2.2.1
  have c1 := (at_5 h).cell (fvals_get (f := b) hj)
  have c2 := (at_6 h).cell (fvals_get (f := e) hj)
  have f1 := (at_5 h).fz j
  have f2 := (at_6 h).fz j
  have hen := hP.en j hj
  have HP : Hid (Parted n K o p c b e) := hP
  have O1 : Hid (Owns B (w.setCell ⟨g3, j, none⟩ (.int .i64 (at_ : Int))) (clsIts bc n K K K o p c (upd b j at_) e k g0 q0 g1 q1 g2 q2 g3 q3 g4 q4 g5 q5 r)) := cls_setB h hj
  have K1 : Hid (Keeps B w (w.setCell ⟨g3, j, none⟩ (.int .i64 (at_ : Int)))) := (Keeps.refl B w).set (at_5 h).ge.1 _ _
  have hq0 := (at_2 h).cap
  have hq0' : n ≤ q0 ∧ q0 ≤ 9223372036854775807 := by unfold maxLen at hq0; omega
  have b0' := (cls_box O1.out).1
  have HBsz : Hid (B ≤ w.heap.size) := Nat.le_trans h.ge.1 (Nat.le_of_lt h.ge.2)
  have hjK : (j : Int) < (K : Int) := by omega
  have hbj : b j = b j := rfl
  generalize hlo : b j = lo at *
  generalize hhi : e j = hi at *
  have HLo : Hid (b j = lo) := hlo
  have HHi : Hid (e j = hi) := hhi
  have hci : (at_ : Int) - (lo : Int) ≤ (hi : Int) - (at_ : Int) := by omega
  clear h hP hlo hhi hbj
  obtain ⟨i0, hio, hz0, hz1, hz2⟩ := info_parts Try.info3i
  go_enter Try.func71, Try.ntmps71
  go_wp2_with fail
  go_region
  all_goals
    go_wp2_with fail
    go_region
    all_goals
      go_wp2_with fail
      go_loopw [55] (fun v wr => ∃ (i : Nat), v = .int .i64 i ∧ i ≤ at_ - lo ∧ Owns B wr (clsIts bc n K K K o p (fun s => if lo ≤ p s ∧ p s < lo + i then K else c s) (upd b j at_) e k g0 q0 g1 q1 g2 q2 g3 q3 g4 q4 g5 q5 r) ∧ Keeps B w wr) (fun v _ => at_ - lo - (intOf v).toNat)
      case atStart =>
        refine ⟨0, rfl, by omega, ?_, K1.out.drew.drew⟩
        have e0 : (fun s => if lo ≤ p s ∧ p s < lo + 0 then K else c s) = c := by
          funext s; rw [if_neg (by omega)]
        rw [e0]
        exact O1.out.kept (grown_drew (grown_drew (grown_refl _ _)))
      case round =>
        clear O1 K1 b0' b3 b4 c1 c2 f1 f2
        obtain ⟨i, rfl, hi2, ho, hkp⟩ := hrel
        have O : Hid (Owns B wr (clsIts bc n K K K o p (fun s => if lo ≤ p s ∧ p s < lo + i then K else c s) (upd b j at_) e k g0 q0 g1 q1 g2 q2 g3 q3 g4 q4 g5 q5 r)) := ho
        have KP : Hid (Keeps B w wr) := hkp
        clear ho hkp
        by_cases hil : i < at_ - lo
        · have hin : lo + i < n := by omega
          have x0 := (at_2 O.out).cell (fvals_get (f := o) hin)
          have hon := HP.out.on _ hin
          have hpo := HP.out.po _ hin
          have O2 : Hid (Owns B (wr.setCell ⟨g2, o (lo + i), none⟩ (.int .i64 (K : Int))) (clsIts bc n K K K o p (fun s => if lo ≤ p s ∧ p s < lo + (i + 1) then K else c s) (upd b j at_) e k g0 q0 g1 q1 g2 q2 g3 q3 g4 q4 g5 q5 r)) := by
            have h1 := cls_setC (x := K) O.out hon
            refine cls_congr h1 (fun s hs => ?_) (fun _ _ => rfl) (fun _ _ => rfl) (fun _ _ => rfl)
            by_cases e2 : s = o (lo + i)
            · subst e2; rw [upd_same, hpo, if_pos (by omega)]
            · rw [upd_ne e2]
              have e3 : p s ≠ lo + i := fun e => e2 (by rw [← e, HP.out.op s hs])
              by_cases e4 : lo ≤ p s ∧ p s < lo + i
              · rw [if_pos e4, if_pos (by omega)]
              · rw [if_neg e4, if_neg (by omega)]
          have K2 : Hid (Keeps B w (wr.setCell ⟨g2, o (lo + i), none⟩ (.int .i64 (K : Int)))) := KP.out.set (at_4 O.out).ge.1 _ _
          have x2 := (cls_box O.out).2.2.1
          have x3 := (cls_box O.out).2.2.2.1
          have xc := (at_4 O.out).cell (fvals_get (f := fun s => if lo ≤ p s ∧ p s < lo + i then K else c s) hon)
          have xf := (at_4 O.out).fz (o (lo + i))
          generalize o (lo + i) = s at *
          generalize (if lo ≤ p s ∧ p s < lo + i then K else c s) = u at xc
          have hsi : (s : Int) < (n : Int) := by omega
          have hii : (i : Int) < (at_ : Int) - (lo : Int) := by omega
          go_wp2_with fail
          go_region
          all_goals
            go_wp2_with fail
            go_roundw
            case rel => exact ⟨i + 1, by go_num, by omega, O2.out.kept (grown_drew (grown_refl _ _)), K2.out.drew⟩
            case measure => simp [intOf]; omega
        · have hii : ¬ (i : Int) < (at_ : Int) - (lo : Int) := by omega
          have hie : lo + i = at_ := by omega
          rw [hie] at O
          have x3 := (cls_box O.out).2.2.2.1
          have HS : Hid (B ≤ wr.heap.size) := Nat.le_trans O.out.ge.1 (Nat.le_of_lt O.out.ge.2)
          have hO : Hid (∀ ob, (wr.alloc ob).ownsRow B 3 1 (.slice (some ⟨g3, 0, none⟩) K q3) K (fvals K (upd b j at_))) := fun ob => by
            have h2 := (at_5 (O.out.kept (grown_alloc wr ob))).row
            rwa [fvals_len] at h2
          go_wp2_with (at_builtin; first | (refine wpList_append_lies _ rfl _ _ 22 rfl B 3 i0 (.int .i64 0) 1 8 Try.underlying22 hio hz0 hz1 hz2 rfl (by decide) (.slice (some ⟨g3, 0, none⟩) K q3) K _ rfl (hO.out _) ⟨wr.heap.size, 0, none⟩ 1 1 [.int .i64 (lo : Int)] rfl rfl (cell_one_at _ _ _ rfl) (by intro u hu; simp at hu; subst hu; rfl) (by omega) (by unfold maxLen; omega) (by omega) (by have := HS.out; simp only [World.size_alloc]; omega) (wr.heap.size + 1) (by rw [World.size_alloc]) ?_; intro ga ca wa hoa hga hata _; obtain ⟨xa, fa, oa, ka⟩ := box_push (l := [(3, .slice (some ⟨g0, 0, none⟩) n q0, fvals n o), (3, .slice (some ⟨g1, 0, none⟩) n q1, fvals n p), (3, .slice (some ⟨g2, 0, none⟩) n q2, fvals n (fun s => if lo ≤ p s ∧ p s < at_ then K else c s))]) (f := 3) (O.out.kept (grown_alloc _ _)) hoa hga hata (by rw [World.size_alloc]) (by decide) rfl; have OA : Hid (Owns B (wa.setCell ⟨bc, 3, none⟩ (.slice (some ⟨ga, 0, none⟩) (K + 1) ca)) (clsIts bc n (K + 1) K K o p (fun s => if lo ≤ p s ∧ p s < at_ then K else c s) (upd (upd b j at_) K lo) e k g0 q0 g1 q1 g2 q2 ga ca g4 q4 g5 q5 r)) := (by have h1 := oa; rw [fvals_snoc] at h1; exact h1); have KA : Hid (Keeps B w (wa.setCell ⟨bc, 3, none⟩ (.slice (some ⟨ga, 0, none⟩) (K + 1) ca))) := (KP.out.alloc _).trans ka; have x4 := (cls_box OA.out).2.2.2.2.1; have HSA : Hid (B ≤ (wa.setCell ⟨bc, 3, none⟩ (.slice (some ⟨ga, 0, none⟩) (K + 1) ca)).heap.size) := (Nat.le_trans OA.out.ge.1 (Nat.le_of_lt OA.out.ge.2)); have hOA : Hid (∀ ob, ((wa.setCell ⟨bc, 3, none⟩ (.slice (some ⟨ga, 0, none⟩) (K + 1) ca)).alloc ob).ownsRow B 3 1 (.slice (some ⟨g4, 0, none⟩) K q4) K (fvals K e)) := (fun ob => by have h2 := (at_6 (OA.out.kept (grown_alloc _ ob))).row; rwa [fvals_len] at h2); clear hoa hga hata oa ka) | (refine wpList_append_lies _ rfl _ _ 22 rfl B 3 i0 (.int .i64 0) 1 8 Try.underlying22 hio hz0 hz1 hz2 rfl (by decide) (.slice (some ⟨g4, 0, none⟩) K q4) K _ rfl (hOA.out _) ⟨wa.heap.size, 0, none⟩ 1 1 [.int .i64 (at_ : Int)] rfl rfl (cell_one_at _ _ _ (size_set _ _ _)) (by intro u hu; simp at hu; subst hu; rfl) (by omega) (by unfold maxLen; omega) (by omega) (by have := HSA.out; simp only [World.size_alloc]; omega) (wa.heap.size + 1) (by rw [World.size_alloc, (size_set _ _ _)]) ?_; intro gb cb wb hoa hga hata _; obtain ⟨xa, fa, oa, ka⟩ := box_push (l := [(3, .slice (some ⟨g0, 0, none⟩) n q0, fvals n o), (3, .slice (some ⟨g1, 0, none⟩) n q1, fvals n p), (3, .slice (some ⟨g2, 0, none⟩) n q2, fvals n (fun s => if lo ≤ p s ∧ p s < at_ then K else c s)), (3, .slice (some ⟨ga, 0, none⟩) (K + 1) ca, fvals (K + 1) (upd (upd b j at_) K lo))]) (f := 4) (OA.out.kept (grown_alloc _ _)) hoa hga hata (by rw [World.size_alloc, (size_set _ _ _)]) (by decide) rfl; have OB : Hid (Owns B (wb.setCell ⟨bc, 4, none⟩ (.slice (some ⟨gb, 0, none⟩) (K + 1) cb)) (clsIts bc n (K + 1) (K + 1) K o p (fun s => if lo ≤ p s ∧ p s < at_ then K else c s) (upd (upd b j at_) K lo) (upd e K at_) k g0 q0 g1 q1 g2 q2 ga ca gb cb g5 q5 r)) := (by have h1 := oa; rw [fvals_snoc] at h1; exact h1); have KB : Hid (Keeps B w (wb.setCell ⟨bc, 4, none⟩ (.slice (some ⟨gb, 0, none⟩) (K + 1) cb))) := (KA.out.alloc _).trans ka; have x5 := (cls_box OB.out).2.2.2.2.2.1; have HSB : Hid (B ≤ (wb.setCell ⟨bc, 4, none⟩ (.slice (some ⟨gb, 0, none⟩) (K + 1) cb)).heap.size) := (Nat.le_trans OB.out.ge.1 (Nat.le_of_lt OB.out.ge.2)); have hOB : Hid (∀ ob, ((wb.setCell ⟨bc, 4, none⟩ (.slice (some ⟨gb, 0, none⟩) (K + 1) cb)).alloc ob).ownsRow B 3 1 (.slice (some ⟨g5, 0, none⟩) K q5) K (fvals K k)) := (fun ob => by have h2 := (at_7 (OB.out.kept (grown_alloc _ ob))).row; rwa [fvals_len] at h2); clear hoa hga hata oa ka) | (refine wpList_append_lies _ rfl _ _ 22 rfl B 3 i0 (.int .i64 0) 1 8 Try.underlying22 hio hz0 hz1 hz2 rfl (by decide) (.slice (some ⟨g5, 0, none⟩) K q5) K _ rfl (hOB.out _) ⟨wb.heap.size, 0, none⟩ 1 1 [.int .i64 ((0 : Nat) : Int)] rfl rfl (cell_one_at _ _ _ (size_set _ _ _)) (by intro u hu; simp at hu; subst hu; rfl) (by omega) (by unfold maxLen; omega) (by omega) (by have := HSB.out; simp only [World.size_alloc]; omega) (wb.heap.size + 1) (by rw [World.size_alloc, (size_set _ _ _)]) ?_; intro gc cc wc hoa hga hata _; obtain ⟨xa, fa, oa, ka⟩ := box_push (l := [(3, .slice (some ⟨g0, 0, none⟩) n q0, fvals n o), (3, .slice (some ⟨g1, 0, none⟩) n q1, fvals n p), (3, .slice (some ⟨g2, 0, none⟩) n q2, fvals n (fun s => if lo ≤ p s ∧ p s < at_ then K else c s)), (3, .slice (some ⟨ga, 0, none⟩) (K + 1) ca, fvals (K + 1) (upd (upd b j at_) K lo)), (3, .slice (some ⟨gb, 0, none⟩) (K + 1) cb, fvals (K + 1) (upd e K at_))]) (f := 5) (OB.out.kept (grown_alloc _ _)) hoa hga hata (by rw [World.size_alloc, (size_set _ _ _)]) (by decide) rfl; have OC : Hid (Owns B (wc.setCell ⟨bc, 5, none⟩ (.slice (some ⟨gc, 0, none⟩) (K + 1) cc)) (clsIts bc n (K + 1) (K + 1) (K + 1) o p (fun s => if lo ≤ p s ∧ p s < at_ then K else c s) (upd (upd b j at_) K lo) (upd e K at_) (upd k K 0) g0 q0 g1 q1 g2 q2 ga ca gb cb gc cc r)) := (by have h1 := oa; rw [fvals_snoc] at h1; exact h1); have KC : Hid (Keeps B w (wc.setCell ⟨bc, 5, none⟩ (.slice (some ⟨gc, 0, none⟩) (K + 1) cc))) := (KB.out.alloc _).trans ka;  clear hoa hga hata oa ka))
          go_end0
          refine ⟨lo, at_, at_, hi, _, _, _, _, _, _, by rw [HLo.out, HHi.out]; exact .inl ⟨rfl, rfl, rfl, rfl⟩, rfl, cls_congr OC.out (fun _ _ => rfl) (fun i _ => ?_) (fun i _ => ?_) (fun _ _ => rfl), KC.out⟩
          · exact rfl
          · by_cases e1 : i = K
            · subst e1; rw [upd_same, upd_same]
            · rw [upd_ne e1, upd_ne e1]
              by_cases e2 : i = j
              · subst e2; rw [upd_same]; exact HHi.out
              · rw [upd_ne e2]

set_option maxHeartbeats 3200000 in
set_option maxRecDepth 100000 in
theorem cut_high (B bc n K : Nat) (o p c b e k : Nat → Nat) (g0 q0 g1 q1 g2 q2 g3 q3 g4 q4 g5 q5 : Nat) (r : List Item) (j at_ : Nat) (w : World)
    (h : Owns B w (clsIts bc n K K K o p c b e k g0 q0 g1 q1 g2 q2 g3 q3 g4 q4 g5 q5 r)) (hP : Parted n K o p c b e) (hn : n ≤ 3000) (hK : K ≤ 3000) (hj : j < K) (h1 : b j < at_) (h2 : at_ < e j) (hc : ¬ at_ - b j ≤ e j - at_) :
    Calls Try.prog 71 #[.pointer (some ⟨bc, 0, none⟩), .int .i64 (j : Int), .int .i64 (at_ : Int)] w (CutPost B bc n K o p c b e k g0 q0 g1 q1 g2 q2 r j at_ w) := by
  have b3 := (cls_box h).2.2.2.1
  have b4 := (cls_box h).2.2.2.2.1
  have c1 := (at_5 h).cell (fvals_get (f := b) hj)
  have c2 := (at_6 h).cell (fvals_get (f := e) hj)
  have f1 := (at_5 h).fz j
  have f2 := (at_6 h).fz j
  have hen := hP.en j hj
  have HP : Hid (Parted n K o p c b e) := hP
  have O1 : Hid (Owns B (w.setCell ⟨g4, j, none⟩ (.int .i64 (at_ : Int))) (clsIts bc n K K K o p c b (upd e j at_) k g0 q0 g1 q1 g2 q2 g3 q3 g4 q4 g5 q5 r)) := cls_setE h hj
  have K1 : Hid (Keeps B w (w.setCell ⟨g4, j, none⟩ (.int .i64 (at_ : Int)))) := (Keeps.refl B w).set (at_6 h).ge.1 _ _
  have hq0 := (at_2 h).cap
  have hq0' : n ≤ q0 ∧ q0 ≤ 9223372036854775807 := by unfold maxLen at hq0; omega
  have b0' := (cls_box O1.out).1
  have HBsz : Hid (B ≤ w.heap.size) := Nat.le_trans h.ge.1 (Nat.le_of_lt h.ge.2)
  have hjK : (j : Int) < (K : Int) := by omega
  have hbj : b j = b j := rfl
  generalize hlo : b j = lo at *
  generalize hhi : e j = hi at *
  have HLo : Hid (b j = lo) := hlo
  have HHi : Hid (e j = hi) := hhi
  have hci : ¬ (at_ : Int) - (lo : Int) ≤ (hi : Int) - (at_ : Int) := by omega
  clear h hP hlo hhi hbj
  obtain ⟨i0, hio, hz0, hz1, hz2⟩ := info_parts Try.info3i
  go_enter Try.func71, Try.ntmps71
  go_wp2_with fail
  go_region
  all_goals
    go_wp2_with fail
    go_region
    all_goals
      go_wp2_with fail
      go_loopw [55] (fun v wr => ∃ (i : Nat), v = .int .i64 i ∧ i ≤ hi - at_ ∧ Owns B wr (clsIts bc n K K K o p (fun s => if at_ ≤ p s ∧ p s < at_ + i then K else c s) b (upd e j at_) k g0 q0 g1 q1 g2 q2 g3 q3 g4 q4 g5 q5 r) ∧ Keeps B w wr) (fun v _ => hi - at_ - (intOf v).toNat)
      case atStart =>
        refine ⟨0, rfl, by omega, ?_, K1.out.drew.drew⟩
        have e0 : (fun s => if at_ ≤ p s ∧ p s < at_ + 0 then K else c s) = c := by
          funext s; rw [if_neg (by omega)]
        rw [e0]
        exact O1.out.kept (grown_drew (grown_drew (grown_refl _ _)))
      case round =>
        clear O1 K1 b0' b3 b4 c1 c2 f1 f2
        obtain ⟨i, rfl, hi2, ho, hkp⟩ := hrel
        have O : Hid (Owns B wr (clsIts bc n K K K o p (fun s => if at_ ≤ p s ∧ p s < at_ + i then K else c s) b (upd e j at_) k g0 q0 g1 q1 g2 q2 g3 q3 g4 q4 g5 q5 r)) := ho
        have KP : Hid (Keeps B w wr) := hkp
        clear ho hkp
        by_cases hil : i < hi - at_
        · have hin : at_ + i < n := by omega
          have x0 := (at_2 O.out).cell (fvals_get (f := o) hin)
          have hon := HP.out.on _ hin
          have hpo := HP.out.po _ hin
          have O2 : Hid (Owns B (wr.setCell ⟨g2, o (at_ + i), none⟩ (.int .i64 (K : Int))) (clsIts bc n K K K o p (fun s => if at_ ≤ p s ∧ p s < at_ + (i + 1) then K else c s) b (upd e j at_) k g0 q0 g1 q1 g2 q2 g3 q3 g4 q4 g5 q5 r)) := by
            have h1 := cls_setC (x := K) O.out hon
            refine cls_congr h1 (fun s hs => ?_) (fun _ _ => rfl) (fun _ _ => rfl) (fun _ _ => rfl)
            by_cases e2 : s = o (at_ + i)
            · subst e2; rw [upd_same, hpo, if_pos (by omega)]
            · rw [upd_ne e2]
              have e3 : p s ≠ at_ + i := fun e => e2 (by rw [← e, HP.out.op s hs])
              by_cases e4 : at_ ≤ p s ∧ p s < at_ + i
              · rw [if_pos e4, if_pos (by omega)]
              · rw [if_neg e4, if_neg (by omega)]
          have K2 : Hid (Keeps B w (wr.setCell ⟨g2, o (at_ + i), none⟩ (.int .i64 (K : Int)))) := KP.out.set (at_4 O.out).ge.1 _ _
          have x2 := (cls_box O.out).2.2.1
          have x3 := (cls_box O.out).2.2.2.1
          have xc := (at_4 O.out).cell (fvals_get (f := fun s => if at_ ≤ p s ∧ p s < at_ + i then K else c s) hon)
          have xf := (at_4 O.out).fz (o (at_ + i))
          generalize o (at_ + i) = s at *
          generalize (if at_ ≤ p s ∧ p s < at_ + i then K else c s) = u at xc
          have hsi : (s : Int) < (n : Int) := by omega
          have hii : (i : Int) < (hi : Int) - (at_ : Int) := by omega
          go_wp2_with fail
          go_region
          all_goals
            go_wp2_with fail
            go_roundw
            case rel => exact ⟨i + 1, by go_num, by omega, O2.out.kept (grown_drew (grown_refl _ _)), K2.out.drew⟩
            case measure => simp [intOf]; omega
        · have hii : ¬ (i : Int) < (hi : Int) - (at_ : Int) := by omega
          have hie : at_ + i = hi := by omega
          rw [hie] at O
          have x3 := (cls_box O.out).2.2.2.1
          have HS : Hid (B ≤ wr.heap.size) := Nat.le_trans O.out.ge.1 (Nat.le_of_lt O.out.ge.2)
          have hO : Hid (∀ ob, (wr.alloc ob).ownsRow B 3 1 (.slice (some ⟨g3, 0, none⟩) K q3) K (fvals K b)) := fun ob => by
            have h2 := (at_5 (O.out.kept (grown_alloc wr ob))).row
            rwa [fvals_len] at h2
          go_wp2_with (at_builtin; first | (refine wpList_append_lies _ rfl _ _ 22 rfl B 3 i0 (.int .i64 0) 1 8 Try.underlying22 hio hz0 hz1 hz2 rfl (by decide) (.slice (some ⟨g3, 0, none⟩) K q3) K _ rfl (hO.out _) ⟨wr.heap.size, 0, none⟩ 1 1 [.int .i64 (at_ : Int)] rfl rfl (cell_one_at _ _ _ rfl) (by intro u hu; simp at hu; subst hu; rfl) (by omega) (by unfold maxLen; omega) (by omega) (by have := HS.out; simp only [World.size_alloc]; omega) (wr.heap.size + 1) (by rw [World.size_alloc]) ?_; intro ga ca wa hoa hga hata _; obtain ⟨xa, fa, oa, ka⟩ := box_push (l := [(3, .slice (some ⟨g0, 0, none⟩) n q0, fvals n o), (3, .slice (some ⟨g1, 0, none⟩) n q1, fvals n p), (3, .slice (some ⟨g2, 0, none⟩) n q2, fvals n (fun s => if at_ ≤ p s ∧ p s < hi then K else c s))]) (f := 3) (O.out.kept (grown_alloc _ _)) hoa hga hata (by rw [World.size_alloc]) (by decide) rfl; have OA : Hid (Owns B (wa.setCell ⟨bc, 3, none⟩ (.slice (some ⟨ga, 0, none⟩) (K + 1) ca)) (clsIts bc n (K + 1) K K o p (fun s => if at_ ≤ p s ∧ p s < hi then K else c s) (upd b K at_) (upd e j at_) k g0 q0 g1 q1 g2 q2 ga ca g4 q4 g5 q5 r)) := (by have h1 := oa; rw [fvals_snoc] at h1; exact h1); have KA : Hid (Keeps B w (wa.setCell ⟨bc, 3, none⟩ (.slice (some ⟨ga, 0, none⟩) (K + 1) ca))) := (KP.out.alloc _).trans ka; have x4 := (cls_box OA.out).2.2.2.2.1; have HSA : Hid (B ≤ (wa.setCell ⟨bc, 3, none⟩ (.slice (some ⟨ga, 0, none⟩) (K + 1) ca)).heap.size) := (Nat.le_trans OA.out.ge.1 (Nat.le_of_lt OA.out.ge.2)); have hOA : Hid (∀ ob, ((wa.setCell ⟨bc, 3, none⟩ (.slice (some ⟨ga, 0, none⟩) (K + 1) ca)).alloc ob).ownsRow B 3 1 (.slice (some ⟨g4, 0, none⟩) K q4) K (fvals K (upd e j at_))) := (fun ob => by have h2 := (at_6 (OA.out.kept (grown_alloc _ ob))).row; rwa [fvals_len] at h2); clear hoa hga hata oa ka) | (refine wpList_append_lies _ rfl _ _ 22 rfl B 3 i0 (.int .i64 0) 1 8 Try.underlying22 hio hz0 hz1 hz2 rfl (by decide) (.slice (some ⟨g4, 0, none⟩) K q4) K _ rfl (hOA.out _) ⟨wa.heap.size, 0, none⟩ 1 1 [.int .i64 (hi : Int)] rfl rfl (cell_one_at _ _ _ (size_set _ _ _)) (by intro u hu; simp at hu; subst hu; rfl) (by omega) (by unfold maxLen; omega) (by omega) (by have := HSA.out; simp only [World.size_alloc]; omega) (wa.heap.size + 1) (by rw [World.size_alloc, (size_set _ _ _)]) ?_; intro gb cb wb hoa hga hata _; obtain ⟨xa, fa, oa, ka⟩ := box_push (l := [(3, .slice (some ⟨g0, 0, none⟩) n q0, fvals n o), (3, .slice (some ⟨g1, 0, none⟩) n q1, fvals n p), (3, .slice (some ⟨g2, 0, none⟩) n q2, fvals n (fun s => if at_ ≤ p s ∧ p s < hi then K else c s)), (3, .slice (some ⟨ga, 0, none⟩) (K + 1) ca, fvals (K + 1) (upd b K at_))]) (f := 4) (OA.out.kept (grown_alloc _ _)) hoa hga hata (by rw [World.size_alloc, (size_set _ _ _)]) (by decide) rfl; have OB : Hid (Owns B (wb.setCell ⟨bc, 4, none⟩ (.slice (some ⟨gb, 0, none⟩) (K + 1) cb)) (clsIts bc n (K + 1) (K + 1) K o p (fun s => if at_ ≤ p s ∧ p s < hi then K else c s) (upd b K at_) (upd (upd e j at_) K hi) k g0 q0 g1 q1 g2 q2 ga ca gb cb g5 q5 r)) := (by have h1 := oa; rw [fvals_snoc] at h1; exact h1); have KB : Hid (Keeps B w (wb.setCell ⟨bc, 4, none⟩ (.slice (some ⟨gb, 0, none⟩) (K + 1) cb))) := (KA.out.alloc _).trans ka; have x5 := (cls_box OB.out).2.2.2.2.2.1; have HSB : Hid (B ≤ (wb.setCell ⟨bc, 4, none⟩ (.slice (some ⟨gb, 0, none⟩) (K + 1) cb)).heap.size) := (Nat.le_trans OB.out.ge.1 (Nat.le_of_lt OB.out.ge.2)); have hOB : Hid (∀ ob, ((wb.setCell ⟨bc, 4, none⟩ (.slice (some ⟨gb, 0, none⟩) (K + 1) cb)).alloc ob).ownsRow B 3 1 (.slice (some ⟨g5, 0, none⟩) K q5) K (fvals K k)) := (fun ob => by have h2 := (at_7 (OB.out.kept (grown_alloc _ ob))).row; rwa [fvals_len] at h2); clear hoa hga hata oa ka) | (refine wpList_append_lies _ rfl _ _ 22 rfl B 3 i0 (.int .i64 0) 1 8 Try.underlying22 hio hz0 hz1 hz2 rfl (by decide) (.slice (some ⟨g5, 0, none⟩) K q5) K _ rfl (hOB.out _) ⟨wb.heap.size, 0, none⟩ 1 1 [.int .i64 ((0 : Nat) : Int)] rfl rfl (cell_one_at _ _ _ (size_set _ _ _)) (by intro u hu; simp at hu; subst hu; rfl) (by omega) (by unfold maxLen; omega) (by omega) (by have := HSB.out; simp only [World.size_alloc]; omega) (wb.heap.size + 1) (by rw [World.size_alloc, (size_set _ _ _)]) ?_; intro gc cc wc hoa hga hata _; obtain ⟨xa, fa, oa, ka⟩ := box_push (l := [(3, .slice (some ⟨g0, 0, none⟩) n q0, fvals n o), (3, .slice (some ⟨g1, 0, none⟩) n q1, fvals n p), (3, .slice (some ⟨g2, 0, none⟩) n q2, fvals n (fun s => if at_ ≤ p s ∧ p s < hi then K else c s)), (3, .slice (some ⟨ga, 0, none⟩) (K + 1) ca, fvals (K + 1) (upd b K at_)), (3, .slice (some ⟨gb, 0, none⟩) (K + 1) cb, fvals (K + 1) (upd (upd e j at_) K hi))]) (f := 5) (OB.out.kept (grown_alloc _ _)) hoa hga hata (by rw [World.size_alloc, (size_set _ _ _)]) (by decide) rfl; have OC : Hid (Owns B (wc.setCell ⟨bc, 5, none⟩ (.slice (some ⟨gc, 0, none⟩) (K + 1) cc)) (clsIts bc n (K + 1) (K + 1) (K + 1) o p (fun s => if at_ ≤ p s ∧ p s < hi then K else c s) (upd b K at_) (upd (upd e j at_) K hi) (upd k K 0) g0 q0 g1 q1 g2 q2 ga ca gb cb gc cc r)) := (by have h1 := oa; rw [fvals_snoc] at h1; exact h1); have KC : Hid (Keeps B w (wc.setCell ⟨bc, 5, none⟩ (.slice (some ⟨gc, 0, none⟩) (K + 1) cc))) := (KB.out.alloc _).trans ka;  clear hoa hga hata oa ka))
          go_end0
          refine ⟨at_, hi, lo, at_, _, _, _, _, _, _, by rw [HLo.out, HHi.out]; exact .inr ⟨rfl, rfl, rfl, rfl⟩, rfl, cls_congr OC.out (fun _ _ => rfl) (fun i _ => ?_) (fun i _ => ?_) (fun _ _ => rfl), KC.out⟩
          · by_cases e1 : i = K
            · subst e1; rw [upd_same, upd_same]
            · rw [upd_ne e1, upd_ne e1]
              by_cases e2 : i = j
              · subst e2; rw [upd_same]; exact HLo.out
              · rw [upd_ne e2]
          · exact rfl

theorem cut_any (B bc n K : Nat) (o p c b e k : Nat → Nat) (g0 q0 g1 q1 g2 q2 g3 q3 g4 q4 g5 q5 : Nat) (r : List Item) (j at_ : Nat) (w : World)
    (h : Owns B w (clsIts bc n K K K o p c b e k g0 q0 g1 q1 g2 q2 g3 q3 g4 q4 g5 q5 r)) (hP : Parted n K o p c b e) (hn : n ≤ 3000) (hj : j < K) (h1 : b j < at_) (h2 : at_ < e j) :
    Calls Try.prog 71 #[.pointer (some ⟨bc, 0, none⟩), .int .i64 (j : Int), .int .i64 (at_ : Int)] w (CutPost B bc n K o p c b e k g0 q0 g1 q1 g2 q2 r j at_ w) := by
  have hK : K ≤ 3000 := Nat.le_trans hP.le hn
  by_cases hc : at_ - b j ≤ e j - at_
  · exact cut_low B bc n K o p c b e k g0 q0 g1 q1 g2 q2 g3 q3 g4 q4 g5 q5 r j at_ w h hP hn hK hj h1 h2 hc
  · exact cut_high B bc n K o p c b e k g0 q0 g1 q1 g2 q2 g3 q3 g4 q4 g5 q5 r j at_ w h hP hn hK hj h1 h2 hc

end Go.Proofs.Ytaangdomdeklhaa
