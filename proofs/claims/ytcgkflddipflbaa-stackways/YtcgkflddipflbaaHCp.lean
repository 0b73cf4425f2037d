/- A class is cut in two. -/
/- Classes are parted by a list of states. -/
/- All states in one class; where letters come from. -/
import Derived.Test.YtcgkflddipflbaaHMem
import Derived.Deep.RegionLaw
namespace Go.Proofs.Ytcgkflddipflbaa
open Go.RowKit
set_option linter.unusedVariables false

def CutPost (B bc n K : Nat) (o p c b e k : Nat → Nat) (g0 q0 g1 q1 g2 q2 : Nat) (r : List Item) (j at_ : Nat) (w : World) (E : Ending) (w' : World) : Prop :=
  ∃ lo hi lo' hi' g3 q3 g4 q4 g5 q5, ((lo = b j ∧ hi = at_ ∧ lo' = at_ ∧ hi' = e j) ∨ (lo' = b j ∧ hi' = at_ ∧ lo = at_ ∧ hi = e j)) ∧ E = .returned (.tuple #[]) ∧
    Owns B w' (clsIts bc n (K + 1) (K + 1) (K + 1) o p (fun s => if lo ≤ p s ∧ p s < hi then K else c s) (upd (upd b j lo') K lo) (upd (upd e j hi') K hi) (upd k K 0) g0 q0 g1 q1 g2 q2 g3 q3 g4 q4 g5 q5 r) ∧ Keeps B w w'

set_option maxHeartbeats 3200000 in
set_option maxRecDepth 100000 in
theorem cut_low (B bc n K : Nat) (o p c b e k : Nat → Nat) (g0 q0 g1 q1 g2 q2 g3 q3 g4 q4 g5 q5 : Nat) (r : List Item) (j at_ : Nat) (w : World)
    (h : Owns B w (clsIts bc n K K K o p c b e k g0 q0 g1 q1 g2 q2 g3 q3 g4 q4 g5 q5 r)) (hP : Parted n K o p c b e) (hn : n ≤ 3000) (hK : K ≤ 3000) (hj : j < K) (h1 : b j < at_) (h2 : at_ < e j) (hc : at_ - b j ≤ e j - at_) :
    Calls Try.prog 72 #[.pointer (some ⟨bc, 0, none⟩), .int .i64 (j : Int), .int .i64 (at_ : Int)] w (CutPost B bc n K o p c b e k g0 q0 g1 q1 g2 q2 r j at_ w) := by
  have b3 := (cls_box h).2.2.2.1
  have b4 := (cls_box h).2.2.2.2.1
  have c1 := (at_5 h).cell (fvals_get (f := b) hj)
  have c2 := (at_6 h).cell (fvals_get (f := e) hj)
  have f1 := (at_5 h).fz j
  have f2 := (at_6 h).fz j
  have hen := hP.en j hj
  have HP : Hid (Parted n K o p c b e) := hP
  have O1 : Hid (Owns B (w.setCell ⟨g3, j, none⟩ (.int .i64 (at_ : Int))) (clsIts bc n K K K o p c (upd b j at_) e k g0 q0 g1 q1 g2 q2 g3 q3 g4 q4 g5 q5 r)) := cls_setB h hj
  have K1 : Hid (Keeps B w (w.setCell ⟨g3, j, none⟩ (.int .i64 (at_ : Int)))) := (Keeps.refl B w).set (at_5 h).ge.1 _ _
  have hq0 := (at_2 h).cap
  have hq0' : n ≤ q0 ∧ q0 ≤ 9223372036854775807 := by unfold maxLen at hq0; omega
  have b0' := (cls_box O1.out).1
  have HBsz : Hid (B ≤ w.heap.size) := Nat.le_trans h.ge.1 (Nat.le_of_lt h.ge.2)
  have hjK : (j : Int) < (K : Int) := by omega
  have hbj : b j = b j := rfl
  generalize hlo : b j = lo at *
  generalize hhi : e j = hi at *
  have HLo : Hid (b j = lo) := hlo
  have HHi : Hid (e j = hi) := hhi
  have hci : (at_ : Int) - (lo : Int) ≤ (hi : Int) - (at_ : Int) := by omega
  clear h hP hlo hhi hbj
  obtain ⟨i0, hio, hz0, hz1, hz2⟩ := info_parts Try.info3i
  go_enter Try.func72, Try.ntmps72
  go_wp2_with fail
  go_region
  all_goals
    go_wp2_with fail
    go_region
    all_goals
      go_wp2_with fail
      go_loopw [55] (fun v wr => ∃ (i : Nat), v = .int .i64 i ∧ i ≤ at_ - lo ∧ Owns B wr (clsIts bc n K K K o p (fun s => if lo ≤ p s ∧ p s < lo + i then K else c s) (upd b j at_) e k g0 q0 g1 q1 g2 q2 g3 q3 g4 q4 g5 q5 r) ∧ Keeps B w wr) (fun v _ => at_ - lo - (intOf v).toNat)
      case atStart =>
        refine ⟨0, rfl, by omega, ?_, K1.out.drew.drew⟩
        have e0 : (fun s => if lo ≤ p s ∧ p s < lo + 0 then K else c s) = c := by
          funext s; rw [if_neg (by omega)]
        rw [e0]
        exact O1.out.kept (grown_drew (grown_drew (grown_refl _ _)))
      case round =>
        clear O1 K1 b0' b3 b4 c1 c2 f1 f2
        obtain ⟨i, rfl, hi2, ho, hkp⟩ := hrel
        have O : Hid (Owns B wr (clsIts bc n K K K o p (fun s => if lo ≤ p s ∧ p s < lo + i then K else c s) (upd b j at_) e k g0 q0 g1 q1 g2 q2 g3 q3 g4 q4 g5 q5 r)) := ho
        have KP : Hid (Keeps B w wr) := hkp
        clear ho hkp
        by_cases hil : i < at_ - lo
        · have hin : lo + i < n := by omega
          have x0 := (at_2 O.out).cell (fvals_get (f := o) hin)
          have hon := HP.out.on _ hin
          have hpo := HP.out.po _ hin
          have O2 : Hid (Owns B (wr.setCell ⟨g2, o (lo + i), none⟩ (.int .i64 (K : Int))) (clsIts bc n K K K o p (fun s => if lo ≤ p s ∧ p s < lo + (i + 1) then K else c s) (upd b j at_) e k g0 q0 g1 q1 g2 q2 g3 q3 g4 q4 g5 q5 r)) := by
            have h1 := cls_setC (x := K) O.out hon
            refine cls_congr h1 (fun s hs => ?_) (fun _ _ => rfl) (fun _ _ => rfl) (fun _ _ => rfl)
            by_cases e2 : s = o (lo + i)
            · subst e2; rw [upd_same, hpo, if_pos (by omega)]
            · rw [upd_ne e2]
              have e3 : p s ≠ lo + i := fun e => e2 (by rw [← e, HP.out.op s hs])
              by_cases e4 : lo ≤ p s ∧ p s < lo + i
              · rw [if_pos e4, if_pos (by omega)]
              · rw [if_neg e4, if_neg (by omega)]
          have K2 : Hid (Keeps B w (wr.setCell ⟨g2, o (lo + i), none⟩ (.int .i64 (K : Int)))) := KP.out.set (at_4 O.out).ge.1 _ _
          have x2 := (cls_box O.out).2.2.1
          have x3 := (cls_box O.out).2.2.2.1
          have xc := (at_4 O.out).cell (fvals_get (f := fun s => if lo ≤ p s ∧ p s < lo + i then K else c s) hon)
          have xf := (at_4 O.out).fz (o (lo + i))
          generalize o (lo + i) = s at *
          generalize (if lo ≤ p s ∧ p s < lo + i then K else c s) = u at xc
          have hsi : (s : Int) < (n : Int) := by omega
          have hii : (i : Int) < (at_ : Int) - (lo : Int) := by omega
          go_wp2_with fail
          go_region
          all_goals
            go_wp2_with fail
            go_roundw
            case rel => exact ⟨i + 1, by go_num, by omega, O2.out.kept (grown_drew (grown_refl _ _)), K2.out.drew⟩
            case measure => simp [intOf]; omega
        · have hii : ¬ (i : Int) < (at_ : Int) - (lo : Int) := by omega
          have hie : lo + i = at_ := by omega
          rw [hie] at O
          have x3 := (cls_box O.out).2.2.2.1
          have HS : Hid (B ≤ wr.heap.size) := Nat.le_trans O.out.ge.1 (Nat.le_of_lt O.out.ge.2)
          have hO : Hid (∀ ob, (wr.alloc ob).ownsRow B 3 1 (.slice (some ⟨g3, 0, none⟩) K q3) K (fvals K (upd b j at_))) := fun ob => by
            have h2 := (at_5 (O.out.kept (grown_alloc wr ob))).row
            rwa [fvals_len] at h2
          go_wp2_with (at_builtin; first | (refine wpList_append_lies _ rfl _ _ 23 rfl B 3 i0 (.int .i64 0) 1 8 Try.underlying23 hio hz0 hz1 hz2 rfl (by decide) (.slice (some ⟨g3, 0, none⟩) K q3) K _ rfl (hO.out _) ⟨wr.heap.size, 0, none⟩ 1 1 [.int .i64 (lo : Int)] rfl rfl (cell_one_at _ _ _ rfl) (by intro u hu; simp at hu; subst hu; rfl) (by omega) (by unfold maxLen; omega) (by omega) (by have := HS.out; simp only [World.size_alloc]; omega) (wr.heap.size + 1) (by rw [World.size_alloc]) ?_; intro ga ca wa hoa hga hata _; obtain ⟨xa, fa, oa, ka⟩ := box_push (l := [(3, .slice (some ⟨g0, 0, none⟩) n q0, fvals n o), (3, .slice (some ⟨g1, 0, none⟩) n q1, fvals n p), (3, .slice (some ⟨g2, 0, none⟩) n q2, fvals n (fun s => if lo ≤ p s ∧ p s < at_ then K else c s))]) (f := 3) (O.out.kept (grown_alloc _ _)) hoa hga hata (by rw [World.size_alloc]) (by decide) rfl; have OA : Hid (Owns B (wa.setCell ⟨bc, 3, none⟩ (.slice (some ⟨ga, 0, none⟩) (K + 1) ca)) (clsIts bc n (K + 1) K K o p (fun s => if lo ≤ p s ∧ p s < at_ then K else c s) (upd (upd b j at_) K lo) e k g0 q0 g1 q1 g2 q2 ga ca g4 q4 g5 q5 r)) := (by have h1 := oa; rw [fvals_snoc] at h1; exact h1); have KA : Hid (Keeps B w (wa.setCell ⟨bc, 3, none⟩ (.slice (some ⟨ga, 0, none⟩) (K + 1) ca))) := (KP.out.alloc _).trans ka; have x4 := (cls_box OA.out).2.2.2.2.1; have HSA : Hid (B ≤ (wa.setCell ⟨bc, 3, none⟩ (.slice (some ⟨ga, 0, none⟩) (K + 1) ca)).heap.size) := (Nat.le_trans OA.out.ge.1 (Nat.le_of_lt OA.out.ge.2)); have hOA : Hid (∀ ob, ((wa.setCell ⟨bc, 3, none⟩ (.slice (some ⟨ga, 0, none⟩) (K + 1) ca)).alloc ob).ownsRow B 3 1 (.slice (some ⟨g4, 0, none⟩) K q4) K (fvals K e)) := (fun ob => by have h2 := (at_6 (OA.out.kept (grown_alloc _ ob))).row; rwa [fvals_len] at h2); clear hoa hga hata oa ka) | (refine wpList_append_lies _ rfl _ _ 23 rfl B 3 i0 (.int .i64 0) 1 8 Try.underlying23 hio hz0 hz1 hz2 rfl (by decide) (.slice (some ⟨g4, 0, none⟩) K q4) K _ rfl (hOA.out _) ⟨wa.heap.size, 0, none⟩ 1 1 [.int .i64 (at_ : Int)] rfl rfl (cell_one_at _ _ _ (size_set _ _ _)) (by intro u hu; simp at hu; subst hu; rfl) (by omega) (by unfold maxLen; omega) (by omega) (by have := HSA.out; simp only [World.size_alloc]; omega) (wa.heap.size + 1) (by rw [World.size_alloc, (size_set _ _ _)]) ?_; intro gb cb wb hoa hga hata _; obtain ⟨xa, fa, oa, ka⟩ := box_push (l := [(3, .slice (some ⟨g0, 0, none⟩) n q0, fvals n o), (3, .slice (some ⟨g1, 0, none⟩) n q1, fvals n p), (3, .slice (some ⟨g2, 0, none⟩) n q2, fvals n (fun s => if lo ≤ p s ∧ p s < at_ then K else c s)), (3, .slice (some ⟨ga, 0, none⟩) (K + 1) ca, fvals (K + 1) (upd (upd b j at_) K lo))]) (f := 4) (OA.out.kept (grown_alloc _ _)) hoa hga hata (by rw [World.size_alloc, (size_set _ _ _)]) (by decide) rfl; have OB : Hid (Owns B (wb.setCell ⟨bc, 4, none⟩ (.slice (some ⟨gb, 0, none⟩) (K + 1) cb)) (clsIts bc n (K + 1) (K + 1) K o p (fun s => if lo ≤ p s ∧ p s < at_ then K else c s) (upd (upd b j at_) K lo) (upd e K at_) k g0 q0 g1 q1 g2 q2 ga ca gb cb g5 q5 r)) := (by have h1 := oa; rw [fvals_snoc] at h1; exact h1); have KB : Hid (Keeps B w (wb.setCell ⟨bc, 4, none⟩ (.slice (some ⟨gb, 0, none⟩) (K + 1) cb))) := (KA.out.alloc _).trans ka; have x5 := (cls_box OB.out).2.2.2.2.2.1; have HSB : Hid (B ≤ (wb.setCell ⟨bc, 4, none⟩ (.slice (some ⟨gb, 0, none⟩) (K + 1) cb)).heap.size) := (Nat.le_trans OB.out.ge.1 (Nat.le_of_lt OB.out.ge.2)); have hOB : Hid (∀ ob, ((wb.setCell ⟨bc, 4, none⟩ (.slice (some ⟨gb, 0, none⟩) (K + 1) cb)).alloc ob).ownsRow B 3 1 (.slice (some ⟨g5, 0, none⟩) K q5) K (fvals K k)) := (fun ob => by have h2 := (at_7 (OB.out.kept (grown_alloc _ ob))).row; rwa [fvals_len] at h2); clear hoa hga hata oa ka) | (refine wpList_append_lies _ rfl _ _ 23 rfl B 3 i0 (.int .i64 0) 1 8 Try.underlying23 hio hz0 hz1 hz2 rfl (by decide) (.slice (some ⟨g5, 0, none⟩) K q5) K _ rfl (hOB.out _) ⟨wb.heap.size, 0, none⟩ 1 1 [.int .i64 ((0 : Nat) : Int)] rfl rfl (cell_one_at _ _ _ (size_set _ _ _)) (by intro u hu; simp at hu; subst hu; rfl) (by omega) (by unfold maxLen; omega) (by omega) (by have := HSB.out; simp only [World.size_alloc]; omega) (wb.heap.size + 1) (by rw [World.size_alloc, (size_set _ _ _)]) ?_; intro gc cc wc hoa hga hata _; obtain ⟨xa, fa, oa, ka⟩ := box_push (l := [(3, .slice (some ⟨g0, 0, none⟩) n q0, fvals n o), (3, .slice (some ⟨g1, 0, none⟩) n q1, fvals n p), (3, .slice (some ⟨g2, 0, none⟩) n q2, fvals n (fun s => if lo ≤ p s ∧ p s < at_ then K else c s)), (3, .slice (some ⟨ga, 0, none⟩) (K + 1) ca, fvals (K + 1) (upd (upd b j at_) K lo)), (3, .slice (some ⟨gb, 0, none⟩) (K + 1) cb, fvals (K + 1) (upd e K at_))]) (f := 5) (OB.out.kept (grown_alloc _ _)) hoa hga hata (by rw [World.size_alloc, (size_set _ _ _)]) (by decide) rfl; have OC : Hid (Owns B (wc.setCell ⟨bc, 5, none⟩ (.slice (some ⟨gc, 0, none⟩) (K + 1) cc)) (clsIts bc n (K + 1) (K + 1) (K + 1) o p (fun s => if lo ≤ p s ∧ p s < at_ then K else c s) (upd (upd b j at_) K lo) (upd e K at_) (upd k K 0) g0 q0 g1 q1 g2 q2 ga ca gb cb gc cc r)) := (by have h1 := oa; rw [fvals_snoc] at h1; exact h1); have KC : Hid (Keeps B w (wc.setCell ⟨bc, 5, none⟩ (.slice (some ⟨gc, 0, none⟩) (K + 1) cc))) := (KB.out.alloc _).trans ka;  clear hoa hga hata oa ka))
          go_end0
          refine ⟨lo, at_, at_, hi, _, _, _, _, _, _, by rw [HLo.out, HHi.out]; exact .inl ⟨rfl, rfl, rfl, rfl⟩, rfl, cls_congr OC.out (fun _ _ => rfl) (fun i _ => ?_) (fun i _ => ?_) (fun _ _ => rfl), KC.out⟩
          · exact rfl
          · by_cases e1 : i = K
            · subst e1; rw [upd_same, upd_same]
            · rw [upd_ne e1, upd_ne e1]
              by_cases e2 : i = j
              · subst e2; rw [upd_same]; exact HHi.out
              · rw [upd_ne e2]

set_option maxHeartbeats 3200000 in
set_option maxRecDepth 100000 in
theorem cut_high (B bc n K : Nat) (o p c b e k : Nat → Nat) (g0 q0 g1 q1 g2 q2 g3 q3 g4 q4 g5 q5 : Nat) (r : List Item) (j at_ : Nat) (w : World)
    (h : Owns B w (clsIts bc n K K K o p c b e k g0 q0 g1 q1 g2 q2 g3 q3 g4 q4 g5 q5 r)) (hP : Parted n K o p c b e) (hn : n ≤ 3000) (hK : K ≤ 3000) (hj : j < K) (h1 : b j < at_) (h2 : at_ < e j) (hc : ¬ at_ - b j ≤ e j - at_) :
    Calls Try.prog 72 #[.pointer (some ⟨bc, 0, none⟩), .int .i64 (j : Int), .int .i64 (at_ : Int)] w (CutPost B bc n K o p c b e k g0 q0 g1 q1 g2 q2 r j at_ w) := by
  have b3 := (cls_box h).2.2.2.1
  have b4 := (cls_box h).2.2.2.2.1
  have c1 := (at_5 h).cell (fvals_get (f := b) hj)
  have c2 := (at_6 h).cell (fvals_get (f := e) hj)
  have f1 := (at_5 h).fz j
  have f2 := (at_6 h).fz j
  have hen := hP.en j hj
  have HP : Hid (Parted n K o p c b e) := hP
  have O1 : Hid (Owns B (w.setCell ⟨g4, j, none⟩ (.int .i64 (at_ : Int))) (clsIts bc n K K K o p c b (upd e j at_) k g0 q0 g1 q1 g2 q2 g3 q3 g4 q4 g5 q5 r)) := cls_setE h hj
  have K1 : Hid (Keeps B w (w.setCell ⟨g4, j, none⟩ (.int .i64 (at_ : Int)))) := (Keeps.refl B w).set (at_6 h).ge.1 _ _
  have hq0 := (at_2 h).cap
  have hq0' : n ≤ q0 ∧ q0 ≤ 9223372036854775807 := by unfold maxLen at hq0; omega
  have b0' := (cls_box O1.out).1
  have HBsz : Hid (B ≤ w.heap.size) := Nat.le_trans h.ge.1 (Nat.le_of_lt h.ge.2)
  have hjK : (j : Int) < (K : Int) := by omega
  have hbj : b j = b j := rfl
  generalize hlo : b j = lo at *
  generalize hhi : e j = hi at *
  have HLo : Hid (b j = lo) := hlo
  have HHi : Hid (e j = hi) := hhi
  have hci : ¬ (at_ : Int) - (lo : Int) ≤ (hi : Int) - (at_ : Int) := by omega
  clear h hP hlo hhi hbj
  obtain ⟨i0, hio, hz0, hz1, hz2⟩ := info_parts Try.info3i
  go_enter Try.func72, Try.ntmps72
  go_wp2_with fail
  go_region
  all_goals
    go_wp2_with fail
    go_region
    all_goals
      go_wp2_with fail
      go_loopw [55] (fun v wr => ∃ (i : Nat), v = .int .i64 i ∧ i ≤ hi - at_ ∧ Owns B wr (clsIts bc n K K K o p (fun s => if at_ ≤ p s ∧ p s < at_ + i then K else c s) b (upd e j at_) k g0 q0 g1 q1 g2 q2 g3 q3 g4 q4 g5 q5 r) ∧ Keeps B w wr) (fun v _ => hi - at_ - (intOf v).toNat)
      case atStart =>
        refine ⟨0, rfl, by omega, ?_, K1.out.drew.drew⟩
        have e0 : (fun s => if at_ ≤ p s ∧ p s < at_ + 0 then K else c s) = c := by
          funext s; rw [if_neg (by omega)]
        rw [e0]
        exact O1.out.kept (grown_drew (grown_drew (grown_refl _ _)))
      case round =>
        clear O1 K1 b0' b3 b4 c1 c2 f1 f2
        obtain ⟨i, rfl, hi2, ho, hkp⟩ := hrel
        have O : Hid (Owns B wr (clsIts bc n K K K o p (fun s => if at_ ≤ p s ∧ p s < at_ + i then K else c s) b (upd e j at_) k g0 q0 g1 q1 g2 q2 g3 q3 g4 q4 g5 q5 r)) := ho
        have KP : Hid (Keeps B w wr) := hkp
        clear ho hkp
        by_cases hil : i < hi - at_
        · have hin : at_ + i < n := by omega
          have x0 := (at_2 O.out).cell (fvals_get (f := o) hin)
          have hon := HP.out.on _ hin
          have hpo := HP.out.po _ hin
          have O2 : Hid (Owns B (wr.setCell ⟨g2, o (at_ + i), none⟩ (.int .i64 (K : Int))) (clsIts bc n K K K o p (fun s => if at_ ≤ p s ∧ p s < at_ + (i + 1) then K else c s) b (upd e j at_) k g0 q0 g1 q1 g2 q2 g3 q3 g4 q4 g5 q5 r)) := by
            have h1 := cls_setC (x := K) O.out hon
            refine cls_congr h1 (fun s hs => ?_) (fun _ _ => rfl) (fun _ _ => rfl) (fun _ _ => rfl)
            by_cases e2 : s = o (at_ + i)
            · subst e2; rw [upd_same, hpo, if_pos (by omega)]
            · rw [upd_ne e2]
              have e3 : p s ≠ at_ + i := fun e => e2 (by rw [← e, HP.out.op s hs])
              by_cases e4 : at_ ≤ p s ∧ p s < at_ + i
              · rw [if_pos e4, if_pos (by omega)]
              · rw [if_neg e4, if_neg (by omega)]
          have K2 : Hid (Keeps B w (wr.setCell ⟨g2, o (at_ + i), none⟩ (.int .i64 (K : Int)))) := KP.out.set (at_4 O.out).ge.1 _ _
          have x2 := (cls_box O.out).2.2.1
          have x3 := (cls_box O.out).2.2.2.1
          have xc := (at_4 O.out).cell (fvals_get (f := fun s => if at_ ≤ p s ∧ p s < at_ + i then K else c s) hon)
          have xf := (at_4 O.out).fz (o (at_ + i))
          generalize o (at_ + i) = s at *
          generalize (if at_ ≤ p s ∧ p s < at_ + i then K else c s) = u at xc
          have hsi : (s : Int) < (n : Int) := by omega
          have hii : (i : Int) < (hi : Int) - (at_ : Int) := by omega
          go_wp2_with fail
          go_region
          all_goals
            go_wp2_with fail
            go_roundw
            case rel => exact ⟨i + 1, by go_num, by omega, O2.out.kept (grown_drew (grown_refl _ _)), K2.out.drew⟩
            case measure => simp [intOf]; omega
        · have hii : ¬ (i : Int) < (hi : Int) - (at_ : Int) := by omega
          have hie : at_ + i = hi := by omega
          rw [hie] at O
          have x3 := (cls_box O.out).2.2.2.1
          have HS : Hid (B ≤ wr.heap.size) := Nat.le_trans O.out.ge.1 (Nat.le_of_lt O.out.ge.2)
          have hO : Hid (∀ ob, (wr.alloc ob).ownsRow B 3 1 (.slice (some ⟨g3, 0, none⟩) K q3) K (fvals K b)) := fun ob => by
            have h2 := (at_5 (O.out.kept (grown_alloc wr ob))).row
            rwa [fvals_len] at h2
          go_wp2_with (at_builtin; first | (refine wpList_append_lies _ rfl _ _ 23 rfl B 3 i0 (.int .i64 0) 1 8 Try.underlying23 hio hz0 hz1 hz2 rfl (by decide) (.slice (some ⟨g3, 0, none⟩) K q3) K _ rfl (hO.out _) ⟨wr.heap.size, 0, none⟩ 1 1 [.int .i64 (at_ : Int)] rfl rfl (cell_one_at _ _ _ rfl) (by intro u hu; simp at hu; subst hu; rfl) (by omega) (by unfold maxLen; omega) (by omega) (by have := HS.out; simp only [World.size_alloc]; omega) (wr.heap.size + 1) (by rw [World.size_alloc]) ?_; intro ga ca wa hoa hga hata _; obtain ⟨xa, fa, oa, ka⟩ := box_push (l := [(3, .slice (some ⟨g0, 0, none⟩) n q0, fvals n o), (3, .slice (some ⟨g1, 0, none⟩) n q1, fvals n p), (3, .slice (some ⟨g2, 0, none⟩) n q2, fvals n (fun s => if at_ ≤ p s ∧ p s < hi then K else c s))]) (f := 3) (O.out.kept (grown_alloc _ _)) hoa hga hata (by rw [World.size_alloc]) (by decide) rfl; have OA : Hid (Owns B (wa.setCell ⟨bc, 3, none⟩ (.slice (some ⟨ga, 0, none⟩) (K + 1) ca)) (clsIts bc n (K + 1) K K o p (fun s => if at_ ≤ p s ∧ p s < hi then K else c s) (upd b K at_) (upd e j at_) k g0 q0 g1 q1 g2 q2 ga ca g4 q4 g5 q5 r)) := (by have h1 := oa; rw [fvals_snoc] at h1; exact h1); have KA : Hid (Keeps B w (wa.setCell ⟨bc, 3, none⟩ (.slice (some ⟨ga, 0, none⟩) (K + 1) ca))) := (KP.out.alloc _).trans ka; have x4 := (cls_box OA.out).2.2.2.2.1; have HSA : Hid (B ≤ (wa.setCell ⟨bc, 3, none⟩ (.slice (some ⟨ga, 0, none⟩) (K + 1) ca)).heap.size) := (Nat.le_trans OA.out.ge.1 (Nat.le_of_lt OA.out.ge.2)); have hOA : Hid (∀ ob, ((wa.setCell ⟨bc, 3, none⟩ (.slice (some ⟨ga, 0, none⟩) (K + 1) ca)).alloc ob).ownsRow B 3 1 (.slice (some ⟨g4, 0, none⟩) K q4) K (fvals K (upd e j at_))) := (fun ob => by have h2 := (at_6 (OA.out.kept (grown_alloc _ ob))).row; rwa [fvals_len] at h2); clear hoa hga hata oa ka) | (refine wpList_append_lies _ rfl _ _ 23 rfl B 3 i0 (.int .i64 0) 1 8 Try.underlying23 hio hz0 hz1 hz2 rfl (by decide) (.slice (some ⟨g4, 0, none⟩) K q4) K _ rfl (hOA.out _) ⟨wa.heap.size, 0, none⟩ 1 1 [.int .i64 (hi : Int)] rfl rfl (cell_one_at _ _ _ (size_set _ _ _)) (by intro u hu; simp at hu; subst hu; rfl) (by omega) (by unfold maxLen; omega) (by omega) (by have := HSA.out; simp only [World.size_alloc]; omega) (wa.heap.size + 1) (by rw [World.size_alloc, (size_set _ _ _)]) ?_; intro gb cb wb hoa hga hata _; obtain ⟨xa, fa, oa, ka⟩ := box_push (l := [(3, .slice (some ⟨g0, 0, none⟩) n q0, fvals n o), (3, .slice (some ⟨g1, 0, none⟩) n q1, fvals n p), (3, .slice (some ⟨g2, 0, none⟩) n q2, fvals n (fun s => if at_ ≤ p s ∧ p s < hi then K else c s)), (3, .slice (some ⟨ga, 0, none⟩) (K + 1) ca, fvals (K + 1) (upd b K at_))]) (f := 4) (OA.out.kept (grown_alloc _ _)) hoa hga hata (by rw [World.size_alloc, (size_set _ _ _)]) (by decide) rfl; have OB : Hid (Owns B (wb.setCell ⟨bc, 4, none⟩ (.slice (some ⟨gb, 0, none⟩) (K + 1) cb)) (clsIts bc n (K + 1) (K + 1) K o p (fun s => if at_ ≤ p s ∧ p s < hi then K else c s) (upd b K at_) (upd (upd e j at_) K hi) k g0 q0 g1 q1 g2 q2 ga ca gb cb g5 q5 r)) := (by have h1 := oa; rw [fvals_snoc] at h1; exact h1); have KB : Hid (Keeps B w (wb.setCell ⟨bc, 4, none⟩ (.slice (some ⟨gb, 0, none⟩) (K + 1) cb))) := (KA.out.alloc _).trans ka; have x5 := (cls_box OB.out).2.2.2.2.2.1; have HSB : Hid (B ≤ (wb.setCell ⟨bc, 4, none⟩ (.slice (some ⟨gb, 0, none⟩) (K + 1) cb)).heap.size) := (Nat.le_trans OB.out.ge.1 (Nat.le_of_lt OB.out.ge.2)); have hOB : Hid (∀ ob, ((wb.setCell ⟨bc, 4, none⟩ (.slice (some ⟨gb, 0, none⟩) (K + 1) cb)).alloc ob).ownsRow B 3 1 (.slice (some ⟨g5, 0, none⟩) K q5) K (fvals K k)) := (fun ob => by have h2 := (at_7 (OB.out.kept (grown_alloc _ ob))).row; rwa [fvals_len] at h2); clear hoa hga hata oa ka) | (refine wpList_append_lies _ rfl _ _ 23 rfl B 3 i0 (.int .i64 0) 1 8 Try.underlying23 hio hz0 hz1 hz2 rfl (by decide) (.slice (some ⟨g5, 0, none⟩) K q5) K _ rfl (hOB.out _) ⟨wb.heap.size, 0, none⟩ 1 1 [.int .i64 ((0 : Nat) : Int)] rfl rfl (cell_one_at _ _ _ (size_set _ _ _)) (by intro u hu; simp at hu; subst hu; rfl) (by omega) (by unfold maxLen; omega) (by omega) (by have := HSB.out; simp only [World.size_alloc]; omega) (wb.heap.size + 1) (by rw [World.size_alloc, (size_set _ _ _)]) ?_; intro gc cc wc hoa hga hata _; obtain ⟨xa, fa, oa, ka⟩ := box_push (l := [(3, .slice (some ⟨g0, 0, none⟩) n q0, fvals n o), (3, .slice (some ⟨g1, 0, none⟩) n q1, fvals n p), (3, .slice (some ⟨g2, 0, none⟩) n q2, fvals n (fun s => if at_ ≤ p s ∧ p s < hi then K else c s)), (3, .slice (some ⟨ga, 0, none⟩) (K + 1) ca, fvals (K + 1) (upd b K at_)), (3, .slice (some ⟨gb, 0, none⟩) (K + 1) cb, fvals (K + 1) (upd (upd e j at_) K hi))]) (f := 5) (OB.out.kept (grown_alloc _ _)) hoa hga hata (by rw [World.size_alloc, (size_set _ _ _)]) (by decide) rfl; have OC : Hid (Owns B (wc.setCell ⟨bc, 5, none⟩ (.slice (some ⟨gc, 0, none⟩) (K + 1) cc)) (clsIts bc n (K + 1) (K + 1) (K + 1) o p (fun s => if at_ ≤ p s ∧ p s < hi then K else c s) (upd b K at_) (upd (upd e j at_) K hi) (upd k K 0) g0 q0 g1 q1 g2 q2 ga ca gb cb gc cc r)) := (by have h1 := oa; rw [fvals_snoc] at h1; exact h1); have KC : Hid (Keeps B w (wc.setCell ⟨bc, 5, none⟩ (.slice (some ⟨gc, 0, none⟩) (K + 1) cc))) := (KB.out.alloc _).trans ka;  clear hoa hga hata oa ka))
          go_end0
          refine ⟨at_, hi, lo, at_, _, _, _, _, _, _, by rw [HLo.out, HHi.out]; exact .inr ⟨rfl, rfl, rfl, rfl⟩, rfl, cls_congr OC.out (fun _ _ => rfl) (fun i _ => ?_) (fun i _ => ?_) (fun _ _ => rfl), KC.out⟩
          · by_cases e1 : i = K
            · subst e1; rw [upd_same, upd_same]
            · rw [upd_ne e1, upd_ne e1]
              by_cases e2 : i = j
              · subst e2; rw [upd_same]; exact HLo.out
              · rw [upd_ne e2]
          · exact rfl

theorem cut_any (B bc n K : Nat) (o p c b e k : Nat → Nat) (g0 q0 g1 q1 g2 q2 g3 q3 g4 q4 g5 q5 : Nat) (r : List Item) (j at_ : Nat) (w : World)
    (h : Owns B w (clsIts bc n K K K o p c b e k g0 q0 g1 q1 g2 q2 g3 q3 g4 q4 g5 q5 r)) (hP : Parted n K o p c b e) (hn : n ≤ 3000) (hj : j < K) (h1 : b j < at_) (h2 : at_ < e j) :
    Calls Try.prog 72 #[.pointer (some ⟨bc, 0, none⟩), .int .i64 (j : Int), .int .i64 (at_ : Int)] w (CutPost B bc n K o p c b e k g0 q0 g1 q1 g2 q2 r j at_ w) := by
  have hK : K ≤ 3000 := Nat.le_trans hP.le hn
  by_cases hc : at_ - b j ≤ e j - at_
  · exact cut_low B bc n K o p c b e k g0 q0 g1 q1 g2 q2 g3 q3 g4 q4 g5 q5 r j at_ w h hP hn hK hj h1 h2 hc
  · exact cut_high B bc n K o p c b e k g0 q0 g1 q1 g2 q2 g3 q3 g4 q4 g5 q5 r j at_ w h hP hn hK hj h1 h2 hc

end Go.Proofs.Ytcgkflddipflbaa

namespace Go.Proofs.Ytcgkflddipflbaa
open Go.RowKit
set_option linter.unusedVariables false

def PartPost (B bc n K : Nat) (o p c b e k : Nat → Nat) (S : List Nat) (g0 q0 g1 q1 g2 q2 : Nat) (r : List Item) (w : World) (E : Ending) (w' : World) : Prop :=
  ∃ (K' : Nat) (o' p' c' b' e' k' : Nat → Nat) (g3 q3 g4 q4 g5 q5 : Nat), E = .returned (.tuple #[]) ∧ Owns B w' (clsIts bc n K' K' K' o' p' c' b' e' k' g0 q0 g1 q1 g2 q2 g3 q3 g4 q4 g5 q5 r) ∧
    Parted n K' o' p' c' b' e' ∧ (∀ j, j < K' → k' j = 0) ∧ PartOf n K c (· ∈ S) K' c' ∧ Keeps B w w'

section
variable {B : Nat} {w w' : World} {x1 x2 x3 x4 x5 x6 x7 x8 : Item} {r : List Item}
theorem at_8 (h : Owns B w (x1 :: x2 :: x3 :: x4 :: x5 :: x6 :: x7 :: x8 :: r)) : Owns B w (x8 :: x1 :: x2 :: x3 :: x4 :: x5 :: x6 :: x7 :: r) := h.perm (List.perm_middle (l₁ := [x1, x2, x3, x4, x5, x6, x7]))
theorem to_8 (h : Owns B w (x8 :: x1 :: x2 :: x3 :: x4 :: x5 :: x6 :: x7 :: r)) : Owns B w (x1 :: x2 :: x3 :: x4 :: x5 :: x6 :: x7 :: x8 :: r) := h.perm (List.perm_middle (l₁ := [x1, x2, x3, x4, x5, x6, x7])).symm
end
theorem natInts_len (xs : List Nat) : (vals (natInts xs)).length = xs.length := by simp [vals]

set_option maxHeartbeats 1600000 in
set_option maxRecDepth 100000 in
theorem part_any (B bc n K : Nat) (o p c b e k : Nat → Nat) (S : List Nat) (aS : Option Addr) (cS : Nat) (g0 q0 g1 q1 g2 q2 g3 q3 g4 q4 g5 q5 : Nat) (r : List Item) (w : World)
    (h : Owns B w (clsIts bc n K K K o p c b e k g0 q0 g1 q1 g2 q2 g3 q3 g4 q4 g5 q5 r)) (hP : Parted n K o p c b e) (hk : ∀ j, j < K → k j = 0) (hn : n ≤ 3000)
    (hm : (3, Value.slice aS S.length cS, vals (natInts S)) ∈ r) (hS : ∀ s, s ∈ S → s < n) (hnd : S.Nodup) :
    Calls Try.prog 68 #[.pointer (some ⟨bc, 0, none⟩), .slice aS S.length cS] w (PartPost B bc n K o p c b e k S g0 q0 g1 q1 g2 q2 r w) := by
  have hSl : S.length ≤ n := nodup_le n S hnd hS
  have hK : K ≤ 3000 := Nat.le_trans hP.le hn
  have HS : Hid (∀ s, s ∈ S → s < n) := hS
  have HN : Hid (S.Nodup) := hnd
  have HM : Hid ((3, Value.slice aS S.length cS, vals (natInts S)) ∈ r) := hm
  have O0 : Hid (Owns B w (clsIts bc n K K K o p c b e k g0 q0 g1 q1 g2 q2 g3 q3 g4 q4 g5 q5 ((3, .slice none 0 0, vals (natInts [])) :: r))) := to_8 (h.empty 3)
  have P0 : Hid (Picking n K o p c b e k [] []) := Picking.start hP hk
  have HBsz : Hid (B ≤ w.heap.size) := Nat.le_trans h.ge.1 (Nat.le_of_lt h.ge.2)
  clear h hP hk hS hnd hm
  obtain ⟨i0, hio, hz0, hz1, hz2⟩ := info_parts Try.info3i
  go_enter Try.func68, Try.ntmps68
  go_wp2_with fail
  go_loopw [4, 13] (fun v4 v13 wr => ∃ (t : Nat) (o p k : Nat → Nat) (T : List Nat) (aT : Option Addr) (cT : Nat), v4 = .slice aT T.length cT ∧ v13 = .int .i64 t ∧ t ≤ S.length ∧ Picking n K o p c b e k (S.take t) T ∧ Owns B wr (clsIts bc n K K K o p c b e k g0 q0 g1 q1 g2 q2 g3 q3 g4 q4 g5 q5 ((3, .slice aT T.length cT, vals (natInts T)) :: r)) ∧ Keeps B w wr) (fun _ v13 _ => S.length - (intOf v13).toNat)
  case atStart => exact ⟨0, o, p, k, [], none, 0, rfl, rfl, by omega, by simpa using P0.out, O0.out, Keeps.refl _ _⟩
  case round =>
    clear O0 P0
    obtain ⟨t, o, p, k, T, aT, cT, rfl, rfl, ht, hPk, ho, hkp⟩ := hrel
    have PK : Hid (Picking n K o p c b e k (S.take t) T) := hPk
    have O : Hid (Owns B wr (clsIts bc n K K K o p c b e k g0 q0 g1 q1 g2 q2 g3 q3 g4 q4 g5 q5 ((3, .slice aT T.length cT, vals (natInts T)) :: r))) := ho
    have KP : Hid (Keeps B w wr) := hkp
    clear hPk ho hkp
    have hTl : T.length ≤ K := nodup_le K T PK.out.nd (fun j hj => ((PK.out.tl j).1 hj).1)
    by_cases htl : t < S.length
    · obtain ⟨s, hs⟩ : ∃ s, S.getD t 0 = s := ⟨_, rfl⟩
      have hsS : s ∈ S := hs ▸ getD_mem htl
      have hsn : s < n := HS.out s hsS
      have hsT : s ∉ S.take t := by
        intro hc
        obtain ⟨j, hj, e1⟩ := List.getElem_of_mem hc
        have hj2 : j < t ∧ j < S.length := by simp at hj; omega
        rw [List.getElem_take] at e1
        have e2 : S[t] = s := by rw [← hs]; simp [List.getD, htl]
        have := (List.nodup_iff_pairwise_ne.1 HN.out)
        rw [List.pairwise_iff_getElem] at this
        exact this j t hj2.2 htl hj2.1 (by rw [e1, e2])
      have HTk : Hid (S.take (t + 1) = S.take t ++ [s]) := by
        show _ = _
        rw [List.take_add_one, ← hs]; simp [List.getD, htl]
      obtain ⟨t1, t2, t3, t4⟩ := PK.out.to hsn hsT
      have hjK := PK.out.parted.ck s hsn
      have hen := PK.out.parted.en _ hjK
      have hpsn : p s < n := PK.out.parted.pn s hsn
      have hton : b (c s) + k (c s) < n := by omega
      have hotn := t4
      obtain ⟨to_, hto_⟩ : ∃ to_, b (c s) + k (c s) = to_ := ⟨_, rfl⟩
      have HTo : Hid (b (c s) + k (c s) = to_) := hto_
      obtain ⟨gs, rfl⟩ := O.out.formM (List.mem_append_right [_, _, _, _, _, _, _, _] HM.out) (by rw [natInts_len]; omega)
      have xs0 := O.out.cellM (List.mem_append_right [_, _, _, _, _, _, _, _] HM.out) (natInts_get htl)
      rw [hs] at xs0
      have x2 := (cls_box O.out).2.2.1
      have x5 := (cls_box O.out).2.2.2.2.2.1
      have xc := (at_4 O.out).cell (fvals_get (f := c) hsn)
      have xk := (at_7 O.out).cell (fvals_get (f := k) hjK)
      have pk1 := PK.out.step hsn hsT
      rw [← HTk.out] at pk1
      have hti : (t : Int) < (S.length : Int) := by omega
      have hsi : (s : Int) < (n : Int) := by omega
      have hji : ((c s : Nat) : Int) < (K : Int) := by omega
      clear hs HTk hto_
      by_cases hk0 : k (c s) = 0
      · have HKj : Hid (k (c s) = 0) := hk0
        have HAr : Hid (((b (c s) : Nat) : Int) = (to_ : Int)) := by show _ = _; rw [← HTo.out, hk0]; omega
        have hwr : IntKind.i64.wrap ((b (c s) : Nat) : Int) = ((b (c s) : Nat) : Int) := by
          rw [IntKind.wrap_i64]; omega
        rw [hk0] at xk
        rw [if_pos hk0] at pk1
        have PK1 : Hid _ := pk1
        clear pk1 hk0
        have hO : Hid (∀ ob, (wr.alloc ob).ownsRow B 3 1 (.slice aT T.length cT) T.length (vals (natInts T))) := fun ob => by
          have h2 := (at_8 (O.out.kept (grown_alloc wr ob))).row
          rwa [natInts_len] at h2
        have HSz : Hid (B ≤ wr.heap.size) := Nat.le_trans O.out.ge.1 (Nat.le_of_lt O.out.ge.2)
        have HE : Hid ((T ++ [c s]).length = T.length + 1) := by show _ = _; simp
        go_wp2_with (at_builtin; refine wpList_append_lies _ rfl _ _ 23 rfl B 3 i0 (.int .i64 0) 1 8 Try.underlying23 hio hz0 hz1 hz2 rfl (by decide) (.slice aT T.length cT) T.length _ rfl (hO.out _) ⟨wr.heap.size, 0, none⟩ 1 1 [.int .i64 ((c s : Nat) : Int)] rfl rfl (cell_one_new _ _ _) (by intro u hu; simp at hu; subst hu; rfl) (by omega) (by unfold maxLen; omega) (by omega) (by have := HSz.out; simp only [World.size_alloc]; omega) (wr.heap.size + 1) (by rw [World.size_alloc]) ?_; intro ga ca wa hoa hga hata _; have OA : Hid (Owns B wa (clsIts bc n K K K o p c b e k g0 q0 g1 q1 g2 q2 g3 q3 g4 q4 g5 q5 ((3, .slice (some ⟨ga, 0, none⟩) (T.length + 1) ca, vals (natInts (T ++ [c s]))) :: r))) := (by have h1 := to_8 ((at_8 (O.out.kept (grown_alloc wr _))).append hoa (by simp) hga hata (by rw [World.size_alloc])); rw [natInts_snoc] at h1; exact h1); have KA : Hid (Keeps B w wa) := ((KP.out.alloc _).trans (Keeps.first (at_8 (O.out.kept (grown_alloc wr _))) hga)); clear hoa hga hata)
        have y3 := (cls_box OA.out).2.2.2.1
        have y5 := (cls_box OA.out).2.2.2.2.2.1
        have yb := (at_5 OA.out).cell (fvals_get (f := b) hjK)
        have yk := (at_7 OA.out).cell (fvals_get (f := k) hjK)
        rw [HKj.out] at yk
        have HMv : Hid (∀ W, wa.grownBy W none → Calls Try.prog 71 #[.pointer (some ⟨bc, 0, none⟩), .int .i64 (s : Int), .int .i64 ((b (c s) : Nat) : Int)] W (MovePost B bc n K o p c b e k g0 q0 g1 q1 g2 q2 g3 q3 g4 q4 g5 q5 ((3, .slice (some ⟨ga, 0, none⟩) (T.length + 1) ca, vals (natInts (T ++ [c s]))) :: r) s (b (c s) + k (c s)) W)) := fun W hW => by
          have h1 := move_any B bc n K o p c b e k g0 q0 g1 q1 g2 q2 g3 q3 g4 q4 g5 q5 ((3, .slice (some ⟨ga, 0, none⟩) (T.length + 1) ca, vals (natInts (T ++ [c s]))) :: r) s (b (c s) + k (c s)) W (OA.out.kept hW) hn hsn hton hpsn hotn
          rw [HTo.out] at h1 ⊢
          rw [HAr.out]
          exact h1
        go_wp2_with fail
        go_region_law (go_simp; go_at_call 71; refine (HMv.out _ ?_).mono ?_; (first | exact grown_refl _ _ | exact grown_drew (grown_refl _ _) | exact grown_drewN (grown_refl _ _) _); rintro E w2 ⟨rfl, ho2, hk2⟩; have O2 : Hid (Owns B w2 (clsIts bc n K K K (upd (upd o (p s) (o (b (c s) + k (c s)))) (b (c s) + k (c s)) s) (upd (upd p (o (b (c s) + k (c s))) (p s)) s (b (c s) + k (c s))) c b e k g0 q0 g1 q1 g2 q2 g3 q3 g4 q4 g5 q5 ((3, .slice (some ⟨ga, 0, none⟩) (T.length + 1) ca, vals (natInts (T ++ [c s]))) :: r))) := ho2; have K2 : Hid (Keeps B w w2) := (KA.out.trans (Keeps.trans (by first | exact Keeps.refl _ _ | exact (Keeps.refl _ _).drew | exact (Keeps.refl _ _).drewN _) hk2)))
        all_goals
          have z5 := (cls_box O2.out).2.2.2.2.2.1
          have zk := (at_7 O2.out).cell (fvals_get (f := k) hjK)
          rw [HKj.out] at zk
          have zf := (at_7 O2.out).fz (c s)
          have O3 : Hid (Owns B (w2.setCell ⟨g5, c s, none⟩ (.int .i64 1)) (clsIts bc n K K K (upd (upd o (p s) (o (b (c s) + k (c s)))) (b (c s) + k (c s)) s) (upd (upd p (o (b (c s) + k (c s))) (p s)) s (b (c s) + k (c s))) c b e (upd k (c s) (k (c s) + 1)) g0 q0 g1 q1 g2 q2 g3 q3 g4 q4 g5 q5 ((3, .slice (some ⟨ga, 0, none⟩) (T.length + 1) ca, vals (natInts (T ++ [c s]))) :: r))) := by
            have h1 := cls_setK (x := k (c s) + 1) O2.out hjK
            have ec : ((k (c s) + 1 : Nat) : Int) = 1 := by have := HKj.out; omega
            rw [ec] at h1
            exact h1
          have K3 : Hid (Keeps B w (w2.setCell ⟨g5, c s, none⟩ (.int .i64 1))) := K2.out.set (at_7 O2.out).ge.1 _ _
          clear O2 K2 ho2 hk2
          go_wp2_with fail
          go_roundw
          case rel => exact ⟨t + 1, _, _, _, T ++ [c s], some ⟨ga, 0, none⟩, ca, by rw [HE.out], by go_num, by omega, PK1.out, by rw [HE.out]; exact O3.out, K3.out⟩
          case measure => simp [intOf]; omega
      · obtain ⟨kj, hkj⟩ : ∃ kj, k (c s) = kj := ⟨_, rfl⟩
        have HKj : Hid (k (c s) = kj) := hkj
        have HAr : Hid ((to_ : Int) = (to_ : Int)) := (rfl : (to_ : Int) = (to_ : Int))
        have hwr : IntKind.i64.wrap (((b (c s) : Nat) : Int) + ((kj : Nat) : Int)) = (to_ : Int) := by
          have := HTo.out
          rw [IntKind.wrap_i64]; omega
        rw [hkj] at xk
        have hki : (((kj : Nat) : Int) == 0) = false := by simp; omega
        have hkb : kj ≤ n := by omega
        rw [if_neg hk0] at pk1
        have PK1 : Hid _ := pk1
        clear pk1 hk0 hkj
        have y3 := (cls_box O.out).2.2.2.1
        have y5 := (cls_box O.out).2.2.2.2.2.1
        have yb := (at_5 O.out).cell (fvals_get (f := b) hjK)
        have yk := (at_7 O.out).cell (fvals_get (f := k) hjK)
        rw [HKj.out] at yk
        have HMv : Hid (∀ W, wr.grownBy W none → Calls Try.prog 71 #[.pointer (some ⟨bc, 0, none⟩), .int .i64 (s : Int), .int .i64 (to_ : Int)] W (MovePost B bc n K o p c b e k g0 q0 g1 q1 g2 q2 g3 q3 g4 q4 g5 q5 ((3, .slice aT (T.length) cT, vals (natInts (T))) :: r) s (b (c s) + k (c s)) W)) := fun W hW => by
          have h1 := move_any B bc n K o p c b e k g0 q0 g1 q1 g2 q2 g3 q3 g4 q4 g5 q5 ((3, .slice aT (T.length) cT, vals (natInts (T))) :: r) s (b (c s) + k (c s)) W (O.out.kept hW) hn hsn hton hpsn hotn
          rw [HTo.out] at h1 ⊢
          rw [HAr.out]
          exact h1
        go_wp2_with fail
        go_region_law (go_simp; go_at_call 71; refine (HMv.out _ ?_).mono ?_; (first | exact grown_refl _ _ | exact grown_drew (grown_refl _ _) | exact grown_drewN (grown_refl _ _) _); rintro E w2 ⟨rfl, ho2, hk2⟩; have O2 : Hid (Owns B w2 (clsIts bc n K K K (upd (upd o (p s) (o (b (c s) + k (c s)))) (b (c s) + k (c s)) s) (upd (upd p (o (b (c s) + k (c s))) (p s)) s (b (c s) + k (c s))) c b e k g0 q0 g1 q1 g2 q2 g3 q3 g4 q4 g5 q5 ((3, .slice aT (T.length) cT, vals (natInts (T))) :: r))) := ho2; have K2 : Hid (Keeps B w w2) := (KP.out.trans (Keeps.trans (by first | exact Keeps.refl _ _ | exact (Keeps.refl _ _).drew | exact (Keeps.refl _ _).drewN _) hk2)))
        all_goals
          have z5 := (cls_box O2.out).2.2.2.2.2.1
          have zk := (at_7 O2.out).cell (fvals_get (f := k) hjK)
          rw [HKj.out] at zk
          have zf := (at_7 O2.out).fz (c s)
          have O3 : Hid (Owns B (w2.setCell ⟨g5, c s, none⟩ (.int .i64 (((kj : Nat) : Int) + 1))) (clsIts bc n K K K (upd (upd o (p s) (o (b (c s) + k (c s)))) (b (c s) + k (c s)) s) (upd (upd p (o (b (c s) + k (c s))) (p s)) s (b (c s) + k (c s))) c b e (upd k (c s) (k (c s) + 1)) g0 q0 g1 q1 g2 q2 g3 q3 g4 q4 g5 q5 ((3, .slice aT (T.length) cT, vals (natInts (T))) :: r))) := by
            have h1 := cls_setK (x := k (c s) + 1) O2.out hjK
            have ec : ((k (c s) + 1 : Nat) : Int) = (((kj : Nat) : Int) + 1) := by have := HKj.out; omega
            rw [ec] at h1
            exact h1
          have K3 : Hid (Keeps B w (w2.setCell ⟨g5, c s, none⟩ (.int .i64 (((kj : Nat) : Int) + 1)))) := K2.out.set (at_7 O2.out).ge.1 _ _
          clear O2 K2 ho2 hk2
          go_wp2_with fail
          go_roundw
          case rel => exact ⟨t + 1, _, _, _, T, aT, cT, rfl, by go_num, by omega, PK1.out, O3.out, K3.out⟩
          case measure => simp [intOf]; omega
    · have hti : ¬ (t : Int) < (S.length : Int) := by omega
      have hTS : S.take t = S := List.take_of_length_le (by omega)
      rw [hTS] at PK
      have C0 : Hid (Cutting n K c S T K o p c b e k) := Cutting.start PK.out
      have HNT : Hid T.Nodup := PK.out.nd
      clear PK hTS
      go_wp2_with fail
      go_loopw [66] (fun v66 wr => ∃ (t Kc : Nat) (c' b' e' k' : Nat → Nat) (g3 q3 g4 q4 g5 q5 : Nat), v66 = .int .i64 t ∧ t ≤ T.length ∧ Cutting n K c S (T.drop t) Kc o p c' b' e' k' ∧ Owns B wr (clsIts bc n Kc Kc Kc o p c' b' e' k' g0 q0 g1 q1 g2 q2 g3 q3 g4 q4 g5 q5 ((3, .slice aT T.length cT, vals (natInts T)) :: r)) ∧ Keeps B w wr) (fun v66 _ => T.length - (intOf v66).toNat)
      case atStart => exact ⟨0, K, c, b, e, k, g3, q3, g4, q4, g5, q5, rfl, by omega, by simpa using C0.out, O.out, KP.out⟩
      case round =>
        clear O KP C0
        obtain ⟨t, Kc, c', b', e', k', g3, q3, g4, q4, g5, q5, rfl, ht2, hC, ho, hkp⟩ := hrel
        have O : Hid (Owns B wr (clsIts bc n Kc Kc Kc o p c' b' e' k' g0 q0 g1 q1 g2 q2 g3 q3 g4 q4 g5 q5 ((3, .slice aT T.length cT, vals (natInts T)) :: r))) := ho
        have KP : Hid (Keeps B w wr) := hkp
        have C : Hid (Cutting n K c S (T.drop t) Kc o p c' b' e' k') := hC
        have hKc : Kc ≤ n := hC.parted.le
        clear hC ho hkp
        by_cases htl2 : t < T.length
        · obtain ⟨j, hj⟩ : ∃ j, T.getD t 0 = j := ⟨_, rfl⟩
          have hdr : T.drop t = j :: T.drop (t + 1) := by
            rw [List.drop_eq_getElem_cons htl2, ← hj]; simp [List.getD, htl2]
          rw [hdr] at C
          obtain ⟨hj0, hjk, _⟩ := C.out.rest j (by simp)
          have hjK : j < Kc := Nat.lt_of_lt_of_le hj0 C.out.k0
          have hle := C.out.le j hjK
          have hen := C.out.parted.en j hjK
          obtain ⟨gt, rfl⟩ := O.out.formM (List.mem_append_right [_, _, _, _, _, _, _] List.mem_cons_self) (by rw [natInts_len]; omega)
          have xt := O.out.cellM (List.mem_append_right [_, _, _, _, _, _, _] List.mem_cons_self) (natInts_get htl2)
          rw [hj] at xt
          have x3 := (cls_box O.out).2.2.2.1
          have x5 := (cls_box O.out).2.2.2.2.2.1
          have xb := (at_5 O.out).cell (fvals_get (f := b') hjK)
          have xk := (at_7 O.out).cell (fvals_get (f := k') hjK)
          have xf := (at_7 O.out).fz j
          have O1 : Hid (Owns B (wr.setCell ⟨g5, j, none⟩ (.int .i64 0)) (clsIts bc n Kc Kc Kc o p c' b' e' (upd k' j 0) g0 q0 g1 q1 g2 q2 g3 q3 g4 q4 g5 q5 ((3, .slice (some ⟨gt, 0, none⟩) T.length cT, vals (natInts T)) :: r))) := cls_setK (x := 0) O.out hjK
          have K1 : Hid (Keeps B w (wr.setCell ⟨g5, j, none⟩ (.int .i64 0))) := KP.out.set (at_7 O.out).ge.1 _ _
          have y4 := (cls_box O1.out).2.2.2.2.1
          have ye := (at_6 O1.out).cell (fvals_get (f := e') hjK)
          obtain ⟨at_, hat_⟩ : ∃ at_, b' j + k' j = at_ := ⟨_, rfl⟩
          have HAt : Hid (b' j + k' j = at_) := hat_
          have hwr : IntKind.i64.wrap (((b' j : Nat) : Int) + ((k' j : Nat) : Int)) = (at_ : Int) := by
            rw [IntKind.wrap_i64]; omega
          have hti2 : (t : Int) < (T.length : Int) := by omega
          have hji : (j : Int) < (Kc : Int) := by omega
          have hat1 : b' j < at_ := by omega
          have hat2 : at_ ≤ e' j := by omega
          clear O KP hj hat_ hdr
          by_cases hae : at_ < e' j
          · have HC : Hid (∀ W, (wr.setCell ⟨g5, j, none⟩ (.int .i64 0)).grownBy W none → Calls Try.prog 72 #[.pointer (some ⟨bc, 0, none⟩), .int .i64 (j : Int), .int .i64 (at_ : Int)] W (CutPost B bc n Kc o p c' b' e' (upd k' j 0) g0 q0 g1 q1 g2 q2 ((3, .slice (some ⟨gt, 0, none⟩) T.length cT, vals (natInts T)) :: r) j at_ W)) := fun W hW =>
              cut_any B bc n Kc o p c' b' e' (upd k' j 0) g0 q0 g1 q1 g2 q2 g3 q3 g4 q4 g5 q5 _ j at_ W (O1.out.kept hW) C.out.parted hn hjK hat1 hae
            have C1 : Hid (∀ lo hi lo' hi', ((lo = b' j ∧ hi = at_ ∧ lo' = at_ ∧ hi' = e' j) ∨ (lo' = b' j ∧ hi' = at_ ∧ lo = at_ ∧ hi = e' j)) → Cutting n K c S (T.drop (t + 1)) (Kc + 1) o p (fun s => if lo ≤ p s ∧ p s < hi then Kc else c' s) (upd (upd b' j lo') Kc lo) (upd (upd e' j hi') Kc hi) (upd (upd k' j 0) Kc 0)) := fun lo hi lo' hi' hx => C.out.cut (by rw [HAt.out]; exact hae) (by rw [HAt.out]; exact hx)
            have haei : (at_ : Int) < ((e' j : Nat) : Int) := by omega
            clear C
            generalize b' j = bj at xb hwr hat1 hat2 hle
            generalize k' j = kj at xk hwr hle
            go_wp2_with fail
            go_region
            all_goals
              go_wp2_with fail
              refine (HC.out _ (grown_drew (grown_refl _ _))).mono ?_
              rintro E w3 ⟨lo, hi, lo', hi', g3', q3', g4', q4', g5', q5', hside, rfl, ho3, hk3⟩
              have C2 : Hid _ := C1.out lo hi lo' hi' hside
              have O3 : Hid _ := ho3
              have K3 : Hid (Keeps B w w3) := K1.out.drew.trans hk3
              clear ho3 hk3 hside C1 HC O1 K1
              go_wp2_with fail
              go_roundw
              case rel => exact ⟨t + 1, Kc + 1, _, _, _, _, g3', q3', g4', q4', g5', q5', by go_num, by omega, C2.out, O3.out, K3.out⟩
              case measure => simp [intOf]; omega
          · have C1 : Hid (Cutting n K c S (T.drop (t + 1)) Kc o p c' b' e' (upd k' j 0)) := C.out.stay (by rw [HAt.out]; exact hae)
            have haei : ¬ (at_ : Int) < ((e' j : Nat) : Int) := by omega
            clear C
            generalize b' j = bj at xb hwr hat1 hat2 hle
            generalize k' j = kj at xk hwr hle
            go_wp2_with fail
            go_region
            all_goals
              go_wp2_with fail
              go_roundw
              case rel => exact ⟨t + 1, Kc, _, _, _, _, g3, q3, g4, q4, g5, q5, by go_num, by omega, C1.out, O1.out.kept (grown_drew (grown_refl _ _)), K1.out.drew⟩
              case measure => simp [intOf]; omega
        · have hti2 : ¬ (t : Int) < (T.length : Int) := by omega
          have hdr : T.drop t = [] := List.drop_eq_nil_of_le (by omega)
          rw [hdr] at C
          have D : Hid _ := C.out.done
          have O9 : Hid _ := (at_8 O.out).tail
          clear O hdr C
          go_wp2_with fail
          go_end0
          exact ⟨Kc, o, p, c', b', e', k', g3, q3, g4, q4, g5, q5, rfl, O9.out, D.out.2.1, D.out.2.2, D.out.1, KP.out⟩

end Go.Proofs.Ytcgkflddipflbaa

namespace Go.Proofs.Ytcgkflddipflbaa
open Go.RowKit
set_option linter.unusedVariables false

/-- A row of a box has grown, whatever it was. -/
theorem box_push' {B bc : Nat} {w w' : World} {T : TypeId} {m f : Nat} {fs : List Value} {a1 : TypeId} {v : Value} {ln g' cap H : Nat} {xs news : List Value} {l r : List Item} (h : Owns B w ((T, .slice (some ⟨bc, 0, none⟩) m m, fs) :: (l ++ (a1, v, xs) :: r))) (hl : xs.length = ln)
    (ho : w'.ownsRow B a1 1 (.slice (some ⟨g', 0, none⟩) (ln + news.length) cap) (ln + news.length) (xs ++ news)) (hg : w.grownBy w' v.ownBlock) (hat : v.ownBlock = some g' ∨ g' = H) (hH : w.heap.size = H) (hf : f < m) {u : Value} (hu : fs[f]? = some u) :
    w'.cell? ⟨bc, f, none⟩ = some u ∧ w'.frozen? ⟨bc, f, none⟩ = false ∧
    Owns B (w'.setCell ⟨bc, f, none⟩ (.slice (some ⟨g', 0, none⟩) (ln + news.length) cap)) ((T, .slice (some ⟨bc, 0, none⟩) m m, fs.set f (.slice (some ⟨g', 0, none⟩) (ln + news.length) cap)) :: (l ++ (a1, .slice (some ⟨g', 0, none⟩) (ln + news.length) cap, xs ++ news) :: r)) ∧
    Keeps B w (w'.setCell ⟨bc, f, none⟩ (.slice (some ⟨g', 0, none⟩) (ln + news.length) cap)) := by
  have h1 : Owns B w ((a1, v, xs) :: (((T, .slice (some ⟨bc, 0, none⟩) m m, fs) :: l) ++ r)) := at_M (l := (T, .slice (some ⟨bc, 0, none⟩) m m, fs) :: l) h
  have h2 := h1.append (news := news) ho (by omega) hg hat hH
  have h3 : Owns B w' ((T, .slice (some ⟨bc, 0, none⟩) m m, fs) :: (l ++ (a1, .slice (some ⟨g', 0, none⟩) (ln + news.length) cap, xs ++ news) :: r)) := to_M (l := (T, .slice (some ⟨bc, 0, none⟩) m m, fs) :: l) h2
  exact ⟨h3.cell hu, h3.fz f, h3.set hf _, (Keeps.first h1 hg).trans ((Keeps.refl _ _).set h3.ge.1 _ _)⟩

def TogPost (n : Nat) (w : World) (E : Ending) (w' : World) : Prop :=
  ∃ (bc g0 q0 g1 q1 g2 q2 g3 q3 g4 q4 g5 q5 : Nat), E = .returned (.pointer (some ⟨bc, 0, none⟩)) ∧ Owns w.heap.size w' (clsIts bc n 1 1 1 id id (fun _ => 0) (fun _ => 0) (fun _ => n) (fun _ => 0) g0 q0 g1 q1 g2 q2 g3 q3 g4 q4 g5 q5 []) ∧ w.grownBy w' none

theorem upd_id (i : Nat) : upd id i i = id := by funext j; unfold upd; split <;> simp_all

set_option maxHeartbeats 1600000 in
set_option maxRecDepth 100000 in
theorem together_any (n : Nat) (w : World) (hn1 : 1 ≤ n) (hn : n ≤ 3000) : Calls Try.prog 67 #[.int .i64 (n : Int)] w (TogPost n w) := by
  have hmk := fun W => make_ints W n (by omega)
  obtain ⟨W0, hW0⟩ : ∃ W0, W0 = ((((w.alloc (.cells #[.int .i64 0] 3)).alloc (.cells #[.int .i64 (n : Int)] 3)).alloc (.cells #[.int .i64 0] 3)).alloc (.cells (Array.replicate n (Value.int .i64 0)) 3)).alloc (.cells #[.slice none 0 0, .slice none 0 0, .slice (some ⟨w.heap.size + 1 + 1 + 1, 0, none⟩) n n, .slice (some ⟨w.heap.size, 0, none⟩) 1 1, .slice (some ⟨w.heap.size + 1, 0, none⟩) 1 1, .slice (some ⟨w.heap.size + 1 + 1, 0, none⟩) 1 1] 110) := ⟨_, rfl⟩
  have G0 : Hid (w.grownBy W0 none) := by
    show World.grownBy _ _ _
    rw [hW0]; exact grown_trans (grown_trans (grown_trans (grown_trans (grown_alloc _ _) (grown_alloc _ _)) (grown_alloc _ _)) (grown_alloc _ _)) (grown_alloc _ _)
  have O0 : Hid (Owns w.heap.size W0 ((110, .slice (some ⟨w.heap.size + 1 + 1 + 1 + 1, 0, none⟩) 6 6, [.slice none 0 0, .slice none 0 0, .slice (some ⟨w.heap.size + 1 + 1 + 1, 0, none⟩) n n, .slice (some ⟨w.heap.size, 0, none⟩) 1 1, .slice (some ⟨w.heap.size + 1, 0, none⟩) 1 1, .slice (some ⟨w.heap.size + 1 + 1, 0, none⟩) 1 1]) :: (3, .slice none 0 0, fvals 0 id) :: (3, .slice none 0 0, fvals 0 id) :: (3, .slice (some ⟨w.heap.size + 1 + 1 + 1, 0, none⟩) n n, fvals n fun _ => 0) :: (3, .slice (some ⟨w.heap.size, 0, none⟩) 1 1, fvals 1 fun _ => 0) :: (3, .slice (some ⟨w.heap.size + 1, 0, none⟩) 1 1, fvals 1 fun _ => n) :: (3, .slice (some ⟨w.heap.size + 1 + 1, 0, none⟩) 1 1, fvals 1 fun _ => 0) :: [])) := by
    show Owns _ _ _
    have o1 := (Owns.no w.heap.size w).made (arr := #[.int .i64 0]) (n := 1) (Nat.le_refl _) 3 rfl (by unfold maxLen; omega)
    have o2 := o1.made (arr := #[.int .i64 (n : Int)]) (n := 1) (by simp) 3 rfl (by unfold maxLen; omega)
    have o3 := o2.made (arr := #[.int .i64 0]) (n := 1) (by simp; omega) 3 rfl (by unfold maxLen; omega)
    have o4 := o3.made (arr := Array.replicate n (Value.int .i64 0)) (n := n) (by simp; omega) 3 (by simp) (by unfold maxLen; omega)
    have o5 := o4.made (arr := #[.slice none 0 0, .slice none 0 0, .slice (some ⟨w.heap.size + 1 + 1 + 1, 0, none⟩) n n, .slice (some ⟨w.heap.size, 0, none⟩) 1 1, .slice (some ⟨w.heap.size + 1, 0, none⟩) 1 1, .slice (some ⟨w.heap.size + 1 + 1, 0, none⟩) 1 1]) (n := 6) (by simp; omega) 110 rfl (by unfold maxLen; omega)
    rw [← hW0] at o5
    simp only [World.size_alloc] at o5
    have o6 := o5.perm (((List.reverse_perm ([(3, Value.slice (some ⟨w.heap.size, 0, none⟩) 1 1, [.int .i64 0]), (3, Value.slice (some ⟨w.heap.size + 1, 0, none⟩) 1 1, [.int .i64 (n : Int)]), (3, Value.slice (some ⟨w.heap.size + 1 + 1, 0, none⟩) 1 1, [.int .i64 0])] : List Item)).cons _).cons _)
    have o7 := to_2 ((to_2 (o6.empty 3)).empty 3)
    have e1 : (Array.replicate n (Value.int .i64 0)).toList = fvals n fun _ => 0 := by
      apply List.ext_getElem (by simp [fvals])
      intro i h1 h2
      simp [fvals]
    rw [e1] at o7
    exact o7
  obtain ⟨i0, hio, hz0, hz1, hz2⟩ := info_parts Try.info3i
  go_enter Try.func67, Try.ntmps67
  go_wp2_with fail
  rw [← hW0]
  clear hW0
  go_loopw [14] (fun v14 wr => ∃ (i : Nat) (a0 : Option Addr) (q0 : Nat) (a1 : Option Addr) (q1 : Nat), v14 = .int .i64 i ∧ i ≤ n ∧ Owns w.heap.size wr ((110, .slice (some ⟨w.heap.size + 1 + 1 + 1 + 1, 0, none⟩) 6 6, [.slice a0 i q0, .slice a1 i q1, .slice (some ⟨w.heap.size + 1 + 1 + 1, 0, none⟩) n n, .slice (some ⟨w.heap.size, 0, none⟩) 1 1, .slice (some ⟨w.heap.size + 1, 0, none⟩) 1 1, .slice (some ⟨w.heap.size + 1 + 1, 0, none⟩) 1 1]) :: (3, .slice a0 i q0, fvals i id) :: (3, .slice a1 i q1, fvals i id) :: (3, .slice (some ⟨w.heap.size + 1 + 1 + 1, 0, none⟩) n n, fvals n fun _ => 0) :: (3, .slice (some ⟨w.heap.size, 0, none⟩) 1 1, fvals 1 fun _ => 0) :: (3, .slice (some ⟨w.heap.size + 1, 0, none⟩) 1 1, fvals 1 fun _ => n) :: (3, .slice (some ⟨w.heap.size + 1 + 1, 0, none⟩) 1 1, fvals 1 fun _ => 0) :: []) ∧ w.grownBy wr none) (fun v14 _ => n - (intOf v14).toNat)
  case atStart => exact ⟨0, none, 0, none, 0, rfl, by omega, O0.out, G0.out⟩
  case round =>
    clear O0 G0
    obtain ⟨i, a0, q0, a1, q1, rfl, hi, ho, hg⟩ := hrel
    have O : Hid (Owns w.heap.size wr ((110, .slice (some ⟨w.heap.size + 1 + 1 + 1 + 1, 0, none⟩) 6 6, [.slice a0 i q0, .slice a1 i q1, .slice (some ⟨w.heap.size + 1 + 1 + 1, 0, none⟩) n n, .slice (some ⟨w.heap.size, 0, none⟩) 1 1, .slice (some ⟨w.heap.size + 1, 0, none⟩) 1 1, .slice (some ⟨w.heap.size + 1 + 1, 0, none⟩) 1 1]) :: (3, .slice a0 i q0, fvals i id) :: (3, .slice a1 i q1, fvals i id) :: (3, .slice (some ⟨w.heap.size + 1 + 1 + 1, 0, none⟩) n n, fvals n fun _ => 0) :: (3, .slice (some ⟨w.heap.size, 0, none⟩) 1 1, fvals 1 fun _ => 0) :: (3, .slice (some ⟨w.heap.size + 1, 0, none⟩) 1 1, fvals 1 fun _ => n) :: (3, .slice (some ⟨w.heap.size + 1 + 1, 0, none⟩) 1 1, fvals 1 fun _ => 0) :: [])) := ho
    have G : Hid (w.grownBy wr none) := hg
    clear ho hg
    by_cases hlt : i < n
    · have hlti : (i : Int) < (n : Int) := by omega
      have x0 := O.out.cell (i := 0) rfl
      have HS : Hid (w.heap.size ≤ wr.heap.size) := G.out.size
      have hO : Hid (∀ ob, (wr.alloc ob).ownsRow w.heap.size 3 1 (.slice a0 i q0) i (fvals i id)) := fun ob => by
        have h2 := (at_2 (O.out.kept (grown_alloc wr ob))).row
        rwa [fvals_len] at h2
      go_wp2_with (at_builtin; first | (refine wpList_append_lies _ rfl _ _ 23 rfl w.heap.size 3 i0 (.int .i64 0) 1 8 Try.underlying23 hio hz0 hz1 hz2 rfl (by decide) (.slice a0 i q0) i _ rfl (hO.out _) ⟨wr.heap.size, 0, none⟩ 1 1 [.int .i64 (i : Int)] rfl rfl (cell_one_at _ _ _ rfl) (by intro u hu; simp at hu; subst hu; rfl) (by omega) (by unfold maxLen; omega) (by omega) (by have := HS.out; simp only [World.size_alloc]; omega) (wr.heap.size + 1) (by rw [World.size_alloc]) ?_; intro ga ca wa hoa hga hata _; obtain ⟨xa, fa, oa, ka⟩ := box_push' (l := []) (f := 0) (O.out.kept (grown_alloc _ _)) (fvals_len _ _) hoa hga hata (by rw [World.size_alloc]) (by decide) rfl; have OA : Hid (Owns w.heap.size (wa.setCell ⟨w.heap.size + 1 + 1 + 1 + 1, 0, none⟩ (.slice (some ⟨ga, 0, none⟩) (i + 1) ca)) ((110, .slice (some ⟨w.heap.size + 1 + 1 + 1 + 1, 0, none⟩) 6 6, [.slice (some ⟨ga, 0, none⟩) (i + 1) ca, .slice a1 i q1, .slice (some ⟨w.heap.size + 1 + 1 + 1, 0, none⟩) n n, .slice (some ⟨w.heap.size, 0, none⟩) 1 1, .slice (some ⟨w.heap.size + 1, 0, none⟩) 1 1, .slice (some ⟨w.heap.size + 1 + 1, 0, none⟩) 1 1]) :: (3, .slice (some ⟨ga, 0, none⟩) (i + 1) ca, fvals (i + 1) id) :: (3, .slice a1 i q1, fvals i id) :: (3, .slice (some ⟨w.heap.size + 1 + 1 + 1, 0, none⟩) n n, fvals n fun _ => 0) :: (3, .slice (some ⟨w.heap.size, 0, none⟩) 1 1, fvals 1 fun _ => 0) :: (3, .slice (some ⟨w.heap.size + 1, 0, none⟩) 1 1, fvals 1 fun _ => n) :: (3, .slice (some ⟨w.heap.size + 1 + 1, 0, none⟩) 1 1, fvals 1 fun _ => 0) :: [])) := (by have h1 := oa; rw [fvals_snoc, upd_id] at h1; exact h1); have KA : Hid (Keeps w.heap.size w (wa.setCell ⟨w.heap.size + 1 + 1 + 1 + 1, 0, none⟩ (.slice (some ⟨ga, 0, none⟩) (i + 1) ca))) := ((Keeps.grown (grown_trans G.out (grown_alloc _ _))).trans ka); have x1 := OA.out.cell (i := 1) rfl; have HSA : Hid (w.heap.size ≤ (wa.setCell ⟨w.heap.size + 1 + 1 + 1 + 1, 0, none⟩ (.slice (some ⟨ga, 0, none⟩) (i + 1) ca)).heap.size) := (Nat.le_trans OA.out.ge.1 (Nat.le_of_lt OA.out.ge.2)); have hOA : Hid (∀ ob, ((wa.setCell ⟨w.heap.size + 1 + 1 + 1 + 1, 0, none⟩ (.slice (some ⟨ga, 0, none⟩) (i + 1) ca)).alloc ob).ownsRow w.heap.size 3 1 (.slice a1 i q1) i (fvals i id)) := (fun ob => by have h2 := (at_3 (OA.out.kept (grown_alloc _ ob))).row; rwa [fvals_len] at h2); clear hoa hga hata oa ka) | (refine wpList_append_lies _ rfl _ _ 23 rfl w.heap.size 3 i0 (.int .i64 0) 1 8 Try.underlying23 hio hz0 hz1 hz2 rfl (by decide) (.slice a1 i q1) i _ rfl (hOA.out _) ⟨wa.heap.size, 0, none⟩ 1 1 [.int .i64 (i : Int)] rfl rfl (cell_one_at _ _ _ (size_set _ _ _)) (by intro u hu; simp at hu; subst hu; rfl) (by omega) (by unfold maxLen; omega) (by omega) (by have := HSA.out; simp only [World.size_alloc]; omega) (wa.heap.size + 1) (by rw [World.size_alloc, size_set]) ?_; intro gb cb wb hoa hga hata _; obtain ⟨xa, fa, oa, ka⟩ := box_push' (l := [(3, .slice (some ⟨ga, 0, none⟩) (i + 1) ca, fvals (i + 1) id)]) (f := 1) (OA.out.kept (grown_alloc _ _)) (fvals_len _ _) hoa hga hata (by rw [World.size_alloc, size_set]) (by decide) rfl; have OB : Hid (Owns w.heap.size (wb.setCell ⟨w.heap.size + 1 + 1 + 1 + 1, 1, none⟩ (.slice (some ⟨gb, 0, none⟩) (i + 1) cb)) ((110, .slice (some ⟨w.heap.size + 1 + 1 + 1 + 1, 0, none⟩) 6 6, [.slice (some ⟨ga, 0, none⟩) (i + 1) ca, .slice (some ⟨gb, 0, none⟩) (i + 1) cb, .slice (some ⟨w.heap.size + 1 + 1 + 1, 0, none⟩) n n, .slice (some ⟨w.heap.size, 0, none⟩) 1 1, .slice (some ⟨w.heap.size + 1, 0, none⟩) 1 1, .slice (some ⟨w.heap.size + 1 + 1, 0, none⟩) 1 1]) :: (3, .slice (some ⟨ga, 0, none⟩) (i + 1) ca, fvals (i + 1) id) :: (3, .slice (some ⟨gb, 0, none⟩) (i + 1) cb, fvals (i + 1) id) :: (3, .slice (some ⟨w.heap.size + 1 + 1 + 1, 0, none⟩) n n, fvals n fun _ => 0) :: (3, .slice (some ⟨w.heap.size, 0, none⟩) 1 1, fvals 1 fun _ => 0) :: (3, .slice (some ⟨w.heap.size + 1, 0, none⟩) 1 1, fvals 1 fun _ => n) :: (3, .slice (some ⟨w.heap.size + 1 + 1, 0, none⟩) 1 1, fvals 1 fun _ => 0) :: [])) := (by have h1 := oa; rw [fvals_snoc, upd_id] at h1; exact h1); have KB : Hid (Keeps w.heap.size w (wb.setCell ⟨w.heap.size + 1 + 1 + 1 + 1, 1, none⟩ (.slice (some ⟨gb, 0, none⟩) (i + 1) cb))) := ((KA.out.alloc _).trans ka); clear hoa hga hata oa ka))
      go_roundw
      case rel => exact ⟨i + 1, some ⟨ga, 0, none⟩, ca, some ⟨gb, 0, none⟩, cb, by go_num, by omega, OB.out, KB.out w (Nat.le_refl _) (grown_refl _ _)⟩
      case measure => simp [intOf]; omega
    · have hie : i = n := by omega
      subst hie
      have hlti : ¬ (i : Int) < (i : Int) := by omega
      obtain ⟨g0, e0⟩ := O.out.formM (List.mem_append_right [_] List.mem_cons_self) (by rw [fvals_len]; omega)
      obtain ⟨g1, e1⟩ := O.out.formM (List.mem_append_right [_, _] List.mem_cons_self) (by rw [fvals_len]; omega)
      subst e0 e1
      go_wp2_with fail
      go_ret
      exact ⟨_, g0, q0, g1, q1, _, _, _, _, _, _, _, _, rfl, O.out, G.out⟩

end Go.Proofs.Ytcgkflddipflbaa
