/- Kin: strangers, heads, joins. -/
import Derived.Test.YtbdpcjcipemiaaaLMath
import Derived.Test.YtbdpcjcipemiaaaHBackD
namespace Go.Proofs.Ytbdpcjcipemiaaa
open Go.RowKit
set_option linter.unusedVariables false

theorem make_kin (w : World) (n : Nat) (hn : n ≤ 1000000) : (Instr.makeSlice 87 (.int .i64 (n : Int)) (.int .i64 (n : Int))).run Try.prog w = .ok (.slice (some ⟨w.heap.size, 0, none⟩) n n) (w.alloc (.cells (Array.replicate n (Value.int .i64 0)) 3)) := by
  obtain ⟨i0, hi, hz0, hz1, hz2⟩ := info_parts Try.info3i
  have hmk := run_make (P := Try.prog) w 87 3 i0 (.int .i64 0) Try.underlying87 hi hz0 .i64 .i64 (n : Int) (n : Int) (by omega) (by omega) (by rw [hz2]; omega) (by omega)
  have e : madeCells (Value.cells (.int .i64 0)) n = Array.replicate n (Value.int .i64 0) := by
    apply Array.ext'
    simpa [Value.cells] using toList_madeCells_one (.int .i64 0) n
  rw [hz1, Nat.mul_one, Int.toNat_natCast, e] at hmk
  exact hmk

def StrPost (n : Nat) (w : World) (E : Ending) (w' : World) : Prop :=
  ∃ g, E = .returned (.slice (some ⟨g, 0, none⟩) n n) ∧ Owns w.heap.size w' [(3, .slice (some ⟨g, 0, none⟩) n n, fvals n id)] ∧ w.grownBy w' none

set_option maxHeartbeats 1000000 in
set_option maxRecDepth 100000 in
theorem strangers_any (n : Nat) (w : World) (hn1 : 1 ≤ n) (hn : n ≤ 6000) : Calls Try.prog 47 #[.int .i64 (n : Int)] w (StrPost n w) := by
  have hmk := make_kin w n (by omega)
  obtain ⟨W1, hW1⟩ : ∃ W1, W1 = w.alloc (.cells (Array.replicate n (Value.int .i64 0)) 3) := ⟨_, rfl⟩
  have O1 : Hid (Owns w.heap.size W1 [(3, .slice (some ⟨w.heap.size, 0, none⟩) n n, fvals n fun s => if s < 0 then id s else 0)]) := by
    have h1 := (Owns.no w.heap.size w).made (arr := Array.replicate n (Value.int .i64 0)) (n := n) (Nat.le_refl _) 3 (by simp) (by unfold maxLen; omega)
    rw [← hW1] at h1
    have e : (Array.replicate n (Value.int .i64 0)).toList = fvals n fun s => if s < 0 then id s else 0 := by
      apply List.ext_getElem (by simp [fvals])
      intro i h1 h2
      simp [fvals]
    rw [e] at h1
    exact h1
  have G1 : Hid (w.grownBy W1 none) := by rw [hW1]; exact grown_alloc _ _
  rw [← hW1] at hmk
  clear hW1
  go_enter Try.func47, Try.ntmps47
  go_wp2_with fail
  clear hmk
  go_loopw [9] (fun v9 wr => ∃ i : Nat, v9 = .int .i64 i ∧ i ≤ n ∧ Owns w.heap.size wr [(3, .slice (some ⟨w.heap.size, 0, none⟩) n n, fvals n fun s => if s < i then id s else 0)] ∧ w.grownBy wr none) (fun v9 _ => n - (intOf v9).toNat)
  case atStart => exact ⟨0, rfl, by omega, O1.out, G1.out⟩
  case round =>
    clear O1 G1
    obtain ⟨i, rfl, hi, ho, hg⟩ := hrel
    have O : Hid (Owns w.heap.size wr [(3, .slice (some ⟨w.heap.size, 0, none⟩) n n, fvals n fun s => if s < i then id s else 0)]) := ho
    have G : Hid (w.grownBy wr none) := hg
    clear ho hg
    by_cases hlt : i < n
    · have hii : (i : Int) < (n : Int) := by omega
      have xc := O.out.cell (fvals_get (f := fun s => if s < i then id s else 0) hlt)
      have xf := O.out.fz i
      have O1 : Hid (Owns w.heap.size (wr.setCell ⟨w.heap.size, i, none⟩ (.int .i64 (i : Int))) [(3, .slice (some ⟨w.heap.size, 0, none⟩) n n, fvals n fun s => if s < i + 1 then id s else 0)]) := by
        have h1 := O.out.set hlt (.int .i64 (i : Int))
        have e1 : (fvals n fun s => if s < i then id s else 0).set i (.int .i64 (i : Int)) = fvals n fun s => if s < i + 1 then id s else 0 := fvals_set (f := id) hlt rfl
        rw [e1] at h1
        exact h1
      have G1 : Hid (w.grownBy (wr.setCell ⟨w.heap.size, i, none⟩ (.int .i64 (i : Int))) none) := grown_new G.out (grown_set _ _ _) (Nat.le_refl _)
      simp only [Nat.lt_irrefl, if_false] at xc
      go_wp2_with fail
      go_roundw
      case rel => exact ⟨i + 1, by go_num, by omega, O1.out, G1.out⟩
      case measure => simp [intOf]; omega
    · have hii : ¬ (i : Int) < (n : Int) := by omega
      have hin : n = i := by omega
      subst hin
      have O2 : Hid (Owns w.heap.size wr [(3, .slice (some ⟨w.heap.size, 0, none⟩) n n, fvals n id)]) := by
        have h1 := O.out
        rw [fvals_congr (g := id) (fun j hj => by rw [if_pos hj])] at h1
        exact h1
      go_wp2_with fail
      go_ret
      exact ⟨_, rfl, O2.out, G.out⟩

/-- What the head's looking up leaves behind. -/
def HeadPost (B n : Nat) (kv : Value) (k hd rk : Nat → Nat) (Bk s : Nat) (r : List Item) (w : World) (E : Ending) (w' : World) : Prop :=
  ∃ k', E = .returned (.int .i64 ((hd s : Nat) : Int)) ∧ Owns B w' ((3, kv, fvals n k') :: r) ∧ Kin n k' hd rk Bk ∧ heads n k' = heads n k ∧ w.grownBy w' kv.ownBlock

set_option maxHeartbeats 1600000 in
set_option maxRecDepth 100000 in
theorem head_any (B n gk ck : Nat) (k hd rk : Nat → Nat) (Bk s : Nat) (r : List Item) (w : World) (h : Owns B w ((3, .slice (some ⟨gk, 0, none⟩) n ck, fvals n k) :: r)) (hK : Kin n k hd rk Bk) (hs : s < n) (hn : n ≤ 6000) :
    Calls Try.prog 64 #[.slice (some ⟨gk, 0, none⟩) n ck, .int .i64 (s : Int)] w (HeadPost B n (.slice (some ⟨gk, 0, none⟩) n ck) k hd rk Bk s r w) := by
  have O0 : Hid (Owns B w ((3, .slice (some ⟨gk, 0, none⟩) n ck, fvals n k) :: r)) := h
  have K0 : Hid (Kin n k hd rk Bk) := hK
  clear h hK
  go_enter Try.func64, Try.ntmps64
  go_wp2_with fail
  go_loopw [1] (fun v1 wr => ∃ (t : Nat) (k' : Nat → Nat), v1 = .int .i64 t ∧ t < n ∧ hd t = hd s ∧ Kin n k' hd rk Bk ∧ heads n k' = heads n k ∧ Owns B wr ((3, .slice (some ⟨gk, 0, none⟩) n ck, fvals n k') :: r) ∧ w.grownBy wr (some gk)) (fun v1 _ => Bk - rk (intOf v1).toNat)
  case atStart => exact ⟨s, k, rfl, hs, rfl, K0.out, rfl, O0.out, grown_refl _ _⟩
  case round =>
    clear O0 K0
    obtain ⟨t, k', rfl, ht, hht, hKin, hhe, ho, hkp⟩ := hrel
    have O : Hid (Owns B wr ((3, .slice (some ⟨gk, 0, none⟩) n ck, fvals n k') :: r)) := ho
    have KN : Hid (Kin n k' hd rk Bk) := hKin
    have KP : Hid (w.grownBy wr (some gk)) := hkp
    have HE : Hid (heads n k' = heads n k) := hhe
    have HT : Hid (hd t = hd s) := hht
    clear ho hKin hkp hhe hht
    have hkt := KN.out.lt t ht
    have x1 := O.out.cell (fvals_get (f := k') ht)
    have hti : (t : Int) < (n : Int) := by omega
    by_cases hne : k' t = t
    · have hni : (((k' t : Nat) : Int) != (t : Int)) = false := by simp [hne]
      have hd1 := KN.out.hh t ht hne
      have HD : Hid (hd s = t) := by show _ = _; rw [← HT.out]; exact hd1
      generalize k' t = kt at x1 hni hkt
      go_wp2_with fail
      go_ret
      exact ⟨k', by rw [HD.out]; rfl, O.out, KN.out, HE.out, KP.out⟩
    · have hni : (((k' t : Nat) : Int) != (t : Int)) = true := by simp; omega
      have hkkt := KN.out.lt _ hkt
      have x2 := O.out.cell (fvals_get (f := k') hkt)
      have fz := O.out.fz t
      obtain ⟨KN2, hiff⟩ := KN.out.short ht hne
      have KS : Hid _ := KN2
      have HE2 : Hid (heads n (upd k' t (k' (k' t))) = heads n k) := by show _ = _; rw [heads_congr hiff]; exact HE.out
      have O2 : Hid (Owns B (wr.setCell ⟨gk, t, none⟩ (.int .i64 ((k' (k' t) : Nat) : Int))) ((3, .slice (some ⟨gk, 0, none⟩) n ck, fvals n (upd k' t (k' (k' t)))) :: r)) := by
        have h1 := O.out.set ht (.int .i64 ((k' (k' t) : Nat) : Int))
        rw [fvals_upd ht] at h1
        exact h1
      have KP2 : Hid (w.grownBy (wr.setCell ⟨gk, t, none⟩ (.int .i64 ((k' (k' t) : Nat) : Int))) (some gk)) := grown_set2 KP.out _ _
      have x3 := O2.out.cell (fvals_get (f := upd k' t (k' (k' t))) ht)
      rw [upd_same] at x3
      have HT2 : Hid (hd (k' (k' t)) = hd s) := by show _ = _; rw [KN.out.hk _ hkt, KN.out.hk _ ht]; exact HT.out
      have hr1 := KN.out.hr t ht hne
      have hr2 : rk (k' t) ≤ rk (k' (k' t)) := by
        by_cases e : k' (k' t) = k' t
        · rw [e]; exact Nat.le_refl _
        · exact Nat.le_of_lt (KN.out.hr _ hkt e)
      have hr3 := KN.out.rb _ hkkt
      have hkti : ((k' t : Nat) : Int) < (n : Int) := by omega
      clear O KP KN2 hiff hne
      generalize hk2 : k' (k' t) = kkt at *
      generalize hk1 : k' t = kt at *
      go_wp2_with fail
      go_roundw
      case rel => exact ⟨kkt, _, rfl, hkkt, HT2.out, KS.out, HE2.out, O2.out, KP2.out⟩
      case measure => simp [intOf]; omega

/-- What a join leaves behind. -/
def JoinPost (B n : Nat) (kv : Value) (k hd : Nat → Nat) (p q : Nat) (r : List Item) (w : World) (E : Ending) (w' : World) : Prop :=
  ∃ (k' hd' rk' : Nat → Nat) (Bk' : Nat), E = .returned (.bool (decide (hd p ≠ hd q))) ∧ Owns B w' ((3, kv, fvals n k') :: r) ∧ Kin n k' hd' rk' Bk' ∧ w.grownBy w' kv.ownBlock ∧
    ((hd p = hd q ∧ hd' = hd ∧ heads n k' = heads n k) ∨ (hd p ≠ hd q ∧ hd' = (fun s => if hd s = hd p then hd q else hd s) ∧ heads n k' + 1 = heads n k))

set_option maxHeartbeats 1600000 in
set_option maxRecDepth 100000 in
theorem join_any (B n gk ck : Nat) (k hd rk : Nat → Nat) (Bk p q : Nat) (r : List Item) (w : World) (h : Owns B w ((3, .slice (some ⟨gk, 0, none⟩) n ck, fvals n k) :: r)) (hK : Kin n k hd rk Bk) (hp : p < n) (hq : q < n) (hn : n ≤ 6000) :
    Calls Try.prog 48 #[.slice (some ⟨gk, 0, none⟩) n ck, .int .i64 (p : Int), .int .i64 (q : Int)] w (JoinPost B n (.slice (some ⟨gk, 0, none⟩) n ck) k hd p q r w) := by
  have HH : Hid (∀ W k1 s, Owns B W ((3, .slice (some ⟨gk, 0, none⟩) n ck, fvals n k1) :: r) → Kin n k1 hd rk Bk → s < n → Calls Try.prog 64 #[.slice (some ⟨gk, 0, none⟩) n ck, .int .i64 (s : Int)] W (HeadPost B n (.slice (some ⟨gk, 0, none⟩) n ck) k1 hd rk Bk s r W)) := fun W k1 s hO hk hs => head_any B n gk ck k1 hd rk Bk s r W hO hk hs hn
  have O0 : Hid (Owns B w ((3, .slice (some ⟨gk, 0, none⟩) n ck, fvals n k) :: r)) := h
  have K0 : Hid (Kin n k hd rk Bk) := hK
  clear h hK
  have hhp := K0.out.hl p hp
  have hhq := K0.out.hl q hq
  go_enter Try.func48, Try.ntmps48
  go_wp2_with fail
  refine (HH.out _ _ p O0.out K0.out hp).mono ?_
  rintro E w1 ⟨k1, rfl, ho1, hk1, he1, hkp1⟩
  have O1 : Hid (Owns B w1 ((3, .slice (some ⟨gk, 0, none⟩) n ck, fvals n k1) :: r)) := ho1
  have K1 : Hid (Kin n k1 hd rk Bk) := hk1
  have HE1 : Hid (heads n k1 = heads n k) := he1
  have KP1 : Hid (w.grownBy w1 (some gk)) := hkp1
  clear ho1 hk1 he1 hkp1 O0 K0
  go_wp2_with fail
  refine (HH.out _ _ q O1.out K1.out hq).mono ?_
  rintro E w2 ⟨k2, rfl, ho2, hk2, he2, hkp2⟩
  have O2 : Hid (Owns B w2 ((3, .slice (some ⟨gk, 0, none⟩) n ck, fvals n k2) :: r)) := ho2
  have K2 : Hid (Kin n k2 hd rk Bk) := hk2
  have HE2 : Hid (heads n k2 = heads n k) := by show _ = _; rw [he2]; exact HE1.out
  have KP2 : Hid (w.grownBy w2 (some gk)) := grown_trans KP1.out hkp2
  clear ho2 hk2 he2 hkp2 O1 K1 HE1 KP1 HH
  have x1 := O2.out.cell (fvals_get (f := k2) hhp)
  have f1 := O2.out.fz (hd p)
  have O3 : Hid (Owns B (w2.setCell ⟨gk, hd p, none⟩ (.int .i64 ((hd q : Nat) : Int))) ((3, .slice (some ⟨gk, 0, none⟩) n ck, fvals n (upd k2 (hd p) (hd q))) :: r)) := by
    have h1 := O2.out.set hhp (.int .i64 ((hd q : Nat) : Int))
    rw [fvals_upd hhp] at h1
    exact h1
  have KP3 : Hid (w.grownBy (w2.setCell ⟨gk, hd p, none⟩ (.int .i64 ((hd q : Nat) : Int))) (some gk)) := grown_set2 KP2.out _ _
  have hpi : ((hd p : Nat) : Int) < (n : Int) := by omega
  have HB : Hid (((((hd p : Nat) : Int) != ((hd q : Nat) : Int))) = decide (hd p ≠ hd q)) := by
    show _ = _
    rw [Bool.eq_iff_iff]; simp; omega
  by_cases hpq : hd p = hd q
  · have HF : Hid (∃ (k' hd' rk' : Nat → Nat) (Bk' : Nat), Owns B (w2.setCell ⟨gk, hd p, none⟩ (.int .i64 ((hd q : Nat) : Int))) ((3, .slice (some ⟨gk, 0, none⟩) n ck, fvals n k') :: r) ∧ Kin n k' hd' rk' Bk' ∧ ((hd p = hd q ∧ hd' = hd ∧ heads n k' = heads n k) ∨ (hd p ≠ hd q ∧ hd' = (fun s => if hd s = hd p then hd q else hd s) ∧ heads n k' + 1 = heads n k))) := by
      refine ⟨k2, hd, rk, Bk, ?_, K2.out, .inl ⟨hpq, rfl, HE2.out⟩⟩
      have h1 := O3.out
      rw [fvals_congr (g := k2) (fun i hi => by
        by_cases e : i = hd p
        · subst e; rw [upd_same, K2.out.hf p hp, ← hpq]
        · rw [upd_ne e])] at h1
      exact h1
    obtain ⟨k', hd', rk', Bk', hf1, hf2, hf3⟩ := HF.out
    have F1 : Hid _ := hf1
    have F2 : Hid _ := hf2
    have F3 : Hid _ := hf3
    clear hf1 hf2 hf3 HF hpq O3
    go_wp2_with fail
    go_ret
    exact ⟨k', hd', rk', Bk', by rw [← HB.out]; rfl, F1.out, F2.out, KP3.out, F3.out⟩
  · have HF : Hid (∃ (k' hd' rk' : Nat → Nat) (Bk' : Nat), Owns B (w2.setCell ⟨gk, hd p, none⟩ (.int .i64 ((hd q : Nat) : Int))) ((3, .slice (some ⟨gk, 0, none⟩) n ck, fvals n k') :: r) ∧ Kin n k' hd' rk' Bk' ∧ ((hd p = hd q ∧ hd' = hd ∧ heads n k' = heads n k) ∨ (hd p ≠ hd q ∧ hd' = (fun s => if hd s = hd p then hd q else hd s) ∧ heads n k' + 1 = heads n k))) :=
      ⟨upd k2 (hd p) (hd q), _, _, _, O3.out, K2.out.join hp hq hpq, .inr ⟨hpq, rfl, by rw [heads_join hhp (K2.out.hf p hp) hpq]; exact HE2.out⟩⟩
    obtain ⟨k', hd', rk', Bk', hf1, hf2, hf3⟩ := HF.out
    have F1 : Hid _ := hf1
    have F2 : Hid _ := hf2
    have F3 : Hid _ := hf3
    clear hf1 hf2 hf3 HF hpq O3
    go_wp2_with fail
    go_ret
    exact ⟨k', hd', rk', Bk', by rw [← HB.out]; rfl, F1.out, F2.out, KP3.out, F3.out⟩

end Go.Proofs.Ytbdpcjcipemiaaa
