/- Kin: strangers, heads, joins. -/
/- The word that leads to a meeting. -/
/- What the first word that tells two states apart is, as it is answered. -/
/- det.Apart: what is not right is refused; else the first word. -/
import Derived.Test.YtmbbkjpfmmnabaaDoorLMath
import Derived.Test.YtmbbkjpfmmnabaaDoorHBk
import Derived.Test.YtmbbkjpfmmnabaaDoorJoins
import Derived.Test.YtmbbkjpfmmnabaaDoorDChk
namespace Go.Proofs.YtmbbkjpfmmnabaaDoor
open Go.RowKit
set_option linter.unusedVariables false

theorem make_kin (w : World) (n : Nat) (hn : n ≤ 1000000) : (Instr.makeSlice 130 (.int .i64 (n : Int)) (.int .i64 (n : Int))).run Tryd.prog w = .ok (.slice (some ⟨w.heap.size, 0, none⟩) n n) (w.alloc (.cells (Array.replicate n (Value.int .i64 0)) 3)) := by
  obtain ⟨i0, hi, hz0, hz1, hz2⟩ := info_parts Tryd.info3i
  have hmk := run_make (P := Tryd.prog) w 130 3 i0 (.int .i64 0) Tryd.underlying130 hi hz0 .i64 .i64 (n : Int) (n : Int) (by omega) (by omega) (by rw [hz2]; omega) (by omega)
  have e : madeCells (Value.cells (.int .i64 0)) n = Array.replicate n (Value.int .i64 0) := by
    apply Array.ext'
    simpa [Value.cells] using toList_madeCells_one (.int .i64 0) n
  rw [hz1, Nat.mul_one, Int.toNat_natCast, e] at hmk
  exact hmk

def StrPost (n : Nat) (w : World) (E : Ending) (w' : World) : Prop :=
  ∃ g, E = .returned (.slice (some ⟨g, 0, none⟩) n n) ∧ Owns w.heap.size w' [(3, .slice (some ⟨g, 0, none⟩) n n, fvals n id)] ∧ w.grownBy w' none

set_option maxHeartbeats 1000000 in
set_option maxRecDepth 100000 in
theorem strangers_any (n : Nat) (w : World) (hn1 : 1 ≤ n) (hn : n ≤ 6000) : Calls Tryd.prog 72 #[.int .i64 (n : Int)] w (StrPost n w) := by
  have hmk := make_kin w n (by omega)
  obtain ⟨W1, hW1⟩ : ∃ W1, W1 = w.alloc (.cells (Array.replicate n (Value.int .i64 0)) 3) := ⟨_, rfl⟩
  have O1 : Hid (Owns w.heap.size W1 [(3, .slice (some ⟨w.heap.size, 0, none⟩) n n, fvals n fun s => if s < 0 then id s else 0)]) := by
    have h1 := (Owns.no w.heap.size w).made (arr := Array.replicate n (Value.int .i64 0)) (n := n) (Nat.le_refl _) 3 (by simp) (by unfold maxLen; omega)
    rw [← hW1] at h1
    have e : (Array.replicate n (Value.int .i64 0)).toList = fvals n fun s => if s < 0 then id s else 0 := by
      apply List.ext_getElem (by simp [fvals])
      intro i h1 h2
      simp [fvals]
    rw [e] at h1
    exact h1
  have G1 : Hid (w.grownBy W1 none) := by rw [hW1]; exact grown_alloc _ _
  rw [← hW1] at hmk
  clear hW1
  go_enter Tryd.func72, Tryd.ntmps72
  go_wp2_with fail
  clear hmk
  go_loopw [9] (fun v9 wr => ∃ i : Nat, v9 = .int .i64 i ∧ i ≤ n ∧ Owns w.heap.size wr [(3, .slice (some ⟨w.heap.size, 0, none⟩) n n, fvals n fun s => if s < i then id s else 0)] ∧ w.grownBy wr none) (fun v9 _ => n - (intOf v9).toNat)
  case atStart => exact ⟨0, rfl, by omega, O1.out, G1.out⟩
  case round =>
    clear O1 G1
    obtain ⟨i, rfl, hi, ho, hg⟩ := hrel
    have O : Hid (Owns w.heap.size wr [(3, .slice (some ⟨w.heap.size, 0, none⟩) n n, fvals n fun s => if s < i then id s else 0)]) := ho
    have G : Hid (w.grownBy wr none) := hg
    clear ho hg
    by_cases hlt : i < n
    · have hii : (i : Int) < (n : Int) := by omega
      have xc := O.out.cell (fvals_get (f := fun s => if s < i then id s else 0) hlt)
      have xf := O.out.fz i
      have O1 : Hid (Owns w.heap.size (wr.setCell ⟨w.heap.size, i, none⟩ (.int .i64 (i : Int))) [(3, .slice (some ⟨w.heap.size, 0, none⟩) n n, fvals n fun s => if s < i + 1 then id s else 0)]) := by
        have h1 := O.out.set hlt (.int .i64 (i : Int))
        have e1 : (fvals n fun s => if s < i then id s else 0).set i (.int .i64 (i : Int)) = fvals n fun s => if s < i + 1 then id s else 0 := fvals_set (f := id) hlt rfl
        rw [e1] at h1
        exact h1
      have G1 : Hid (w.grownBy (wr.setCell ⟨w.heap.size, i, none⟩ (.int .i64 (i : Int))) none) := grown_new G.out (grown_set _ _ _) (Nat.le_refl _)
      simp only [Nat.lt_irrefl, if_false] at xc
      go_wp2_with fail
      go_roundw
      case rel => exact ⟨i + 1, by go_num, by omega, O1.out, G1.out⟩
      case measure => simp [intOf]; omega
    · have hii : ¬ (i : Int) < (n : Int) := by omega
      have hin : n = i := by omega
      subst hin
      have O2 : Hid (Owns w.heap.size wr [(3, .slice (some ⟨w.heap.size, 0, none⟩) n n, fvals n id)]) := by
        have h1 := O.out
        rw [fvals_congr (g := id) (fun j hj => by rw [if_pos hj])] at h1
        exact h1
      go_wp2_with fail
      go_ret
      exact ⟨_, rfl, O2.out, G.out⟩

/-- What the head's looking up leaves behind. -/
def HeadPost (B n : Nat) (kv : Value) (k hd rk : Nat → Nat) (Bk s : Nat) (r : List Item) (w : World) (E : Ending) (w' : World) : Prop :=
  ∃ k', E = .returned (.int .i64 ((hd s : Nat) : Int)) ∧ Owns B w' ((3, kv, fvals n k') :: r) ∧ Kin n k' hd rk Bk ∧ heads n k' = heads n k ∧ w.grownBy w' kv.ownBlock

set_option maxHeartbeats 1600000 in
set_option maxRecDepth 100000 in
theorem head_any (B n gk ck : Nat) (k hd rk : Nat → Nat) (Bk s : Nat) (r : List Item) (w : World) (h : Owns B w ((3, .slice (some ⟨gk, 0, none⟩) n ck, fvals n k) :: r)) (hK : Kin n k hd rk Bk) (hs : s < n) (hn : n ≤ 6000) :
    Calls Tryd.prog 100 #[.slice (some ⟨gk, 0, none⟩) n ck, .int .i64 (s : Int)] w (HeadPost B n (.slice (some ⟨gk, 0, none⟩) n ck) k hd rk Bk s r w) := by
  have O0 : Hid (Owns B w ((3, .slice (some ⟨gk, 0, none⟩) n ck, fvals n k) :: r)) := h
  have K0 : Hid (Kin n k hd rk Bk) := hK
  clear h hK
  go_enter Tryd.func100, Tryd.ntmps100
  go_wp2_with fail
  go_loopw [1] (fun v1 wr => ∃ (t : Nat) (k' : Nat → Nat), v1 = .int .i64 t ∧ t < n ∧ hd t = hd s ∧ Kin n k' hd rk Bk ∧ heads n k' = heads n k ∧ Owns B wr ((3, .slice (some ⟨gk, 0, none⟩) n ck, fvals n k') :: r) ∧ w.grownBy wr (some gk)) (fun v1 _ => Bk - rk (intOf v1).toNat)
  case atStart => exact ⟨s, k, rfl, hs, rfl, K0.out, rfl, O0.out, grown_refl _ _⟩
  case round =>
    clear O0 K0
    obtain ⟨t, k', rfl, ht, hht, hKin, hhe, ho, hkp⟩ := hrel
    have O : Hid (Owns B wr ((3, .slice (some ⟨gk, 0, none⟩) n ck, fvals n k') :: r)) := ho
    have KN : Hid (Kin n k' hd rk Bk) := hKin
    have KP : Hid (w.grownBy wr (some gk)) := hkp
    have HE : Hid (heads n k' = heads n k) := hhe
    have HT : Hid (hd t = hd s) := hht
    clear ho hKin hkp hhe hht
    have hkt := KN.out.lt t ht
    have x1 := O.out.cell (fvals_get (f := k') ht)
    have hti : (t : Int) < (n : Int) := by omega
    by_cases hne : k' t = t
    · have hni : (((k' t : Nat) : Int) != (t : Int)) = false := by simp [hne]
      have hd1 := KN.out.hh t ht hne
      have HD : Hid (hd s = t) := by show _ = _; rw [← HT.out]; exact hd1
      generalize k' t = kt at x1 hni hkt
      go_wp2_with fail
      go_ret
      exact ⟨k', by rw [HD.out]; rfl, O.out, KN.out, HE.out, KP.out⟩
    · have hni : (((k' t : Nat) : Int) != (t : Int)) = true := by simp; omega
      have hkkt := KN.out.lt _ hkt
      have x2 := O.out.cell (fvals_get (f := k') hkt)
      have fz := O.out.fz t
      obtain ⟨KN2, hiff⟩ := KN.out.short ht hne
      have KS : Hid _ := KN2
      have HE2 : Hid (heads n (upd k' t (k' (k' t))) = heads n k) := by show _ = _; rw [heads_congr hiff]; exact HE.out
      have O2 : Hid (Owns B (wr.setCell ⟨gk, t, none⟩ (.int .i64 ((k' (k' t) : Nat) : Int))) ((3, .slice (some ⟨gk, 0, none⟩) n ck, fvals n (upd k' t (k' (k' t)))) :: r)) := by
        have h1 := O.out.set ht (.int .i64 ((k' (k' t) : Nat) : Int))
        rw [fvals_upd ht] at h1
        exact h1
      have KP2 : Hid (w.grownBy (wr.setCell ⟨gk, t, none⟩ (.int .i64 ((k' (k' t) : Nat) : Int))) (some gk)) := grown_set2 KP.out _ _
      have x3 := O2.out.cell (fvals_get (f := upd k' t (k' (k' t))) ht)
      rw [upd_same] at x3
      have HT2 : Hid (hd (k' (k' t)) = hd s) := by show _ = _; rw [KN.out.hk _ hkt, KN.out.hk _ ht]; exact HT.out
      have hr1 := KN.out.hr t ht hne
      have hr2 : rk (k' t) ≤ rk (k' (k' t)) := by
        by_cases e : k' (k' t) = k' t
        · rw [e]; exact Nat.le_refl _
        · exact Nat.le_of_lt (KN.out.hr _ hkt e)
      have hr3 := KN.out.rb _ hkkt
      have hkti : ((k' t : Nat) : Int) < (n : Int) := by omega
      clear O KP KN2 hiff hne
      generalize hk2 : k' (k' t) = kkt at *
      generalize hk1 : k' t = kt at *
      go_wp2_with fail
      go_roundw
      case rel => exact ⟨kkt, _, rfl, hkkt, HT2.out, KS.out, HE2.out, O2.out, KP2.out⟩
      case measure => simp [intOf]; omega

/-- What a join leaves behind. -/
def JoinPost (B n : Nat) (kv : Value) (k hd : Nat → Nat) (p q : Nat) (r : List Item) (w : World) (E : Ending) (w' : World) : Prop :=
  ∃ (k' hd' rk' : Nat → Nat) (Bk' : Nat), E = .returned (.bool (decide (hd p ≠ hd q))) ∧ Owns B w' ((3, kv, fvals n k') :: r) ∧ Kin n k' hd' rk' Bk' ∧ w.grownBy w' kv.ownBlock ∧
    ((hd p = hd q ∧ hd' = hd ∧ heads n k' = heads n k) ∨ (hd p ≠ hd q ∧ hd' = (fun s => if hd s = hd p then hd q else hd s) ∧ heads n k' + 1 = heads n k))

set_option maxHeartbeats 1600000 in
set_option maxRecDepth 100000 in
theorem join_any (B n gk ck : Nat) (k hd rk : Nat → Nat) (Bk p q : Nat) (r : List Item) (w : World) (h : Owns B w ((3, .slice (some ⟨gk, 0, none⟩) n ck, fvals n k) :: r)) (hK : Kin n k hd rk Bk) (hp : p < n) (hq : q < n) (hn : n ≤ 6000) :
    Calls Tryd.prog 73 #[.slice (some ⟨gk, 0, none⟩) n ck, .int .i64 (p : Int), .int .i64 (q : Int)] w (JoinPost B n (.slice (some ⟨gk, 0, none⟩) n ck) k hd p q r w) := by
  have HH : Hid (∀ W k1 s, Owns B W ((3, .slice (some ⟨gk, 0, none⟩) n ck, fvals n k1) :: r) → Kin n k1 hd rk Bk → s < n → Calls Tryd.prog 100 #[.slice (some ⟨gk, 0, none⟩) n ck, .int .i64 (s : Int)] W (HeadPost B n (.slice (some ⟨gk, 0, none⟩) n ck) k1 hd rk Bk s r W)) := fun W k1 s hO hk hs => head_any B n gk ck k1 hd rk Bk s r W hO hk hs hn
  have O0 : Hid (Owns B w ((3, .slice (some ⟨gk, 0, none⟩) n ck, fvals n k) :: r)) := h
  have K0 : Hid (Kin n k hd rk Bk) := hK
  clear h hK
  have hhp := K0.out.hl p hp
  have hhq := K0.out.hl q hq
  go_enter Tryd.func73, Tryd.ntmps73
  go_wp2_with fail
  refine (HH.out _ _ p O0.out K0.out hp).mono ?_
  rintro E w1 ⟨k1, rfl, ho1, hk1, he1, hkp1⟩
  have O1 : Hid (Owns B w1 ((3, .slice (some ⟨gk, 0, none⟩) n ck, fvals n k1) :: r)) := ho1
  have K1 : Hid (Kin n k1 hd rk Bk) := hk1
  have HE1 : Hid (heads n k1 = heads n k) := he1
  have KP1 : Hid (w.grownBy w1 (some gk)) := hkp1
  clear ho1 hk1 he1 hkp1 O0 K0
  go_wp2_with fail
  refine (HH.out _ _ q O1.out K1.out hq).mono ?_
  rintro E w2 ⟨k2, rfl, ho2, hk2, he2, hkp2⟩
  have O2 : Hid (Owns B w2 ((3, .slice (some ⟨gk, 0, none⟩) n ck, fvals n k2) :: r)) := ho2
  have K2 : Hid (Kin n k2 hd rk Bk) := hk2
  have HE2 : Hid (heads n k2 = heads n k) := by show _ = _; rw [he2]; exact HE1.out
  have KP2 : Hid (w.grownBy w2 (some gk)) := grown_trans KP1.out hkp2
  clear ho2 hk2 he2 hkp2 O1 K1 HE1 KP1 HH
  have x1 := O2.out.cell (fvals_get (f := k2) hhp)
  have f1 := O2.out.fz (hd p)
  have O3 : Hid (Owns B (w2.setCell ⟨gk, hd p, none⟩ (.int .i64 ((hd q : Nat) : Int))) ((3, .slice (some ⟨gk, 0, none⟩) n ck, fvals n (upd k2 (hd p) (hd q))) :: r)) := by
    have h1 := O2.out.set hhp (.int .i64 ((hd q : Nat) : Int))
    rw [fvals_upd hhp] at h1
    exact h1
  have KP3 : Hid (w.grownBy (w2.setCell ⟨gk, hd p, none⟩ (.int .i64 ((hd q : Nat) : Int))) (some gk)) := grown_set2 KP2.out _ _
  have hpi : ((hd p : Nat) : Int) < (n : Int) := by omega
  have HB : Hid (((((hd p : Nat) : Int) != ((hd q : Nat) : Int))) = decide (hd p ≠ hd q)) := by
    show _ = _
    rw [Bool.eq_iff_iff]; simp; omega
  by_cases hpq : hd p = hd q
  · have HF : Hid (∃ (k' hd' rk' : Nat → Nat) (Bk' : Nat), Owns B (w2.setCell ⟨gk, hd p, none⟩ (.int .i64 ((hd q : Nat) : Int))) ((3, .slice (some ⟨gk, 0, none⟩) n ck, fvals n k') :: r) ∧ Kin n k' hd' rk' Bk' ∧ ((hd p = hd q ∧ hd' = hd ∧ heads n k' = heads n k) ∨ (hd p ≠ hd q ∧ hd' = (fun s => if hd s = hd p then hd q else hd s) ∧ heads n k' + 1 = heads n k))) := by
      refine ⟨k2, hd, rk, Bk, ?_, K2.out, .inl ⟨hpq, rfl, HE2.out⟩⟩
      have h1 := O3.out
      rw [fvals_congr (g := k2) (fun i hi => by
        by_cases e : i = hd p
        · subst e; rw [upd_same, K2.out.hf p hp, ← hpq]
        · rw [upd_ne e])] at h1
      exact h1
    obtain ⟨k', hd', rk', Bk', hf1, hf2, hf3⟩ := HF.out
    have F1 : Hid _ := hf1
    have F2 : Hid _ := hf2
    have F3 : Hid _ := hf3
    clear hf1 hf2 hf3 HF hpq O3
    go_wp2_with fail
    go_ret
    exact ⟨k', hd', rk', Bk', by rw [← HB.out]; rfl, F1.out, F2.out, KP3.out, F3.out⟩
  · have HF : Hid (∃ (k' hd' rk' : Nat → Nat) (Bk' : Nat), Owns B (w2.setCell ⟨gk, hd p, none⟩ (.int .i64 ((hd q : Nat) : Int))) ((3, .slice (some ⟨gk, 0, none⟩) n ck, fvals n k') :: r) ∧ Kin n k' hd' rk' Bk' ∧ ((hd p = hd q ∧ hd' = hd ∧ heads n k' = heads n k) ∨ (hd p ≠ hd q ∧ hd' = (fun s => if hd s = hd p then hd q else hd s) ∧ heads n k' + 1 = heads n k))) :=
      ⟨upd k2 (hd p) (hd q), _, _, _, O3.out, K2.out.join hp hq hpq, .inr ⟨hpq, rfl, by rw [heads_join hhp (K2.out.hf p hp) hpq]; exact HE2.out⟩⟩
    obtain ⟨k', hd', rk', Bk', hf1, hf2, hf3⟩ := HF.out
    have F1 : Hid _ := hf1
    have F2 : Hid _ := hf2
    have F3 : Hid _ := hf3
    clear hf1 hf2 hf3 HF hpq O3
    go_wp2_with fail
    go_ret
    exact ⟨k', hd', rk', Bk', by rw [← HB.out]; rfl, F1.out, F2.out, KP3.out, F3.out⟩

end Go.Proofs.YtmbbkjpfmmnabaaDoor

namespace Go.Proofs.YtmbbkjpfmmnabaaDoor
open Go.RowKit
set_option linter.unusedVariables false

/-- Meetings, read. -/
def MetR (w : World) (gm N : Nat) (X Y : Nat → Nat) (F : Nat → Int) (Lt : Nat → Nat) : Prop :=
  ∀ i, i < N → w.cell? ⟨gm, i * 4, none⟩ = some (.int .i64 ((X i : Nat) : Int)) ∧ w.cell? ⟨gm, i * 4 + 1, none⟩ = some (.int .i64 ((Y i : Nat) : Int)) ∧ w.cell? ⟨gm, i * 4 + 2, none⟩ = some (.int .i64 (F i)) ∧ w.cell? ⟨gm, i * 4 + 3, none⟩ = some (.int .i64 ((Lt i : Nat) : Int))
theorem MetR.grown {w w' : World} {gm N : Nat} {X Y : Nat → Nat} {F : Nat → Int} {Lt : Nat → Nat} (h : MetR w gm N X Y F Lt) (hg : w.grownBy w' none) : MetR w' gm N X Y F Lt := fun i hi => by
  obtain ⟨h1, h2, h3, h4⟩ := h i hi
  exact ⟨hg.cell h1 (by simp), hg.cell h2 (by simp), hg.cell h3 (by simp), hg.cell h4 (by simp)⟩

theorem node_len {ws : List (List Nat)} {F : Nat → Int} {Lt : Nat → Nat} (h : Node ws F Lt) : ∀ i, i < ws.length → (ws.getD i []).length ≤ i := by
  intro i
  induction i using Nat.strongRecOn with
  | _ i ih =>
    intro hi
    rcases h i hi with ⟨_, _, h1⟩ | ⟨j, hj, _, h1⟩
    · rw [h1]; simp
    · have := ih j hj (by omega)
      rw [h1, List.length_append, List.length_singleton]; omega
theorem fvals_list (z : List Nat) : fvals z.length (fun i => z.getD i 0) = vals (natInts z) := by
  apply List.ext_getElem (by simp [fvals])
  intro i h1 h2
  have hi : i < z.length := by simpa [vals] using h2
  simp [fvals, vals, List.getD, hi]

def WordPost (zs : List Nat) (w : World) (E : Ending) (w' : World) : Prop :=
  ∃ a c, E = .returned (.slice a zs.length c) ∧ Owns w.heap.size w' [(3, .slice a zs.length c, vals (natInts zs))] ∧ w.grownBy w' none

set_option maxHeartbeats 1600000 in
set_option maxRecDepth 100000 in
theorem wordTo_any (gm N cm at_ : Nat) (X Y : Nat → Nat) (F : Nat → Int) (Lt : Nat → Nat) (ws : List (List Nat)) (w : World) (h : MetR w gm N X Y F Lt) (hN : N ≤ 6000) (hl : ws.length = N) (hnode : Node ws F Lt) (hat : at_ < N) :
    Calls Tryd.prog 74 #[.slice (some ⟨gm, 0, none⟩) N cm, .int .i64 (at_ : Int)] w (WordPost (ws.getD at_ []) w) := by
  have M0 : Hid (MetR w gm N X Y F Lt) := h
  have ND : Hid (Node ws F Lt) := hnode
  have HL : Hid (ws.length = N) := hl
  obtain ⟨c0, c1, c2, c3⟩ := h at_ hat
  clear h hnode hl
  go_enter Tryd.func74, Tryd.ntmps74
  go_wp2_with fail
  obtain ⟨z, hz⟩ : ∃ z, ws.getD at_ [] = z := ⟨_, rfl⟩
  have HZ : Hid (ws.getD at_ [] = z) := hz
  have hzl : z.length ≤ at_ := by rw [← hz]; exact node_len ND.out at_ (by rw [HL.out]; exact hat)
  clear hz c0 c1 c2 c3
  go_loopw [5, 6] (fun v5 v6 wr => ∃ (t L : Nat), v5 = .int .i64 L ∧ v6 = .int .i64 t ∧ t < N ∧ L + (ws.getD t []).length = z.length ∧ w.grownBy wr none) (fun _ v6 _ => (intOf v6).toNat)
  case atStart => exact ⟨at_, 0, rfl, rfl, hat, by rw [HZ.out]; simp, grown_refl _ _⟩
  case round =>
    obtain ⟨t, L, rfl, rfl, ht, hLt, hg⟩ := hrel
    have G : Hid (w.grownBy wr none) := hg
    obtain ⟨c0, c1, c2, c3⟩ := (M0.out.grown hg) t ht
    have hti : (t : Int) < (N : Int) := by omega
    clear hg
    rcases ND.out t (by rw [HL.out]; exact ht) with ⟨ht0, hf, hw⟩ | ⟨j, hj, hf, hw⟩
    · clear ht0
      rw [hf] at c2
      have hLz : L = z.length := by rw [hw] at hLt; simpa using hLt
      subst hLz
      have hmk := make_ints wr z.length (by omega)
      obtain ⟨W1, hW1⟩ : ∃ W1, W1 = wr.alloc (.cells (Array.replicate z.length (Value.int .i64 0)) 3) := ⟨_, rfl⟩
      have O1 : Hid (Owns wr.heap.size W1 [(3, .slice (some ⟨wr.heap.size, 0, none⟩) z.length z.length, fvals z.length fun i => if i < z.length then 0 else z.getD i 0)]) := by
        have h1 := (Owns.no wr.heap.size wr).made (arr := Array.replicate z.length (Value.int .i64 0)) (n := z.length) (Nat.le_refl _) 3 (by simp) (by unfold maxLen; omega)
        rw [← hW1] at h1
        have e : (Array.replicate z.length (Value.int .i64 0)).toList = fvals z.length fun i => if i < z.length then 0 else z.getD i 0 := by
          apply List.ext_getElem (by simp [fvals])
          intro i h1 h2
          have : i < z.length := by simpa [fvals] using h2
          simp [fvals, this]
        rw [e] at h1
        exact h1
      have G1 : Hid (wr.grownBy W1 none) := by rw [hW1]; exact grown_alloc _ _
      rw [← hW1] at hmk
      clear hW1 hf hw
      go_wp2_with fail
      clear hmk c0 c1 c2 c3
      obtain ⟨wo, hwo⟩ : ∃ wo, wo = wr := ⟨_, rfl⟩
      obtain ⟨gw, hgw⟩ : ∃ gw, wr.heap.size = gw := ⟨_, rfl⟩
      rw [hgw] at O1
      rw [hgw]
      rw [← hwo] at hgw G G1
      have HGW : Hid (wo.heap.size = gw) := hgw
      clear hgw hwo
      go_loopw [5, 8] (fun v5 v8 wq => ∃ (t L : Nat), v5 = .int .i64 L ∧ v8 = .int .i64 t ∧ t < N ∧ L ≤ z.length ∧ ws.getD t [] = z.take L ∧ Owns gw wq [(3, .slice (some ⟨gw, 0, none⟩) z.length z.length, fvals z.length fun i => if i < L then 0 else z.getD i 0)] ∧ wo.grownBy wq none) (fun _ v8 _ => (intOf v8).toNat)
      case atStart => exact ⟨at_, z.length, rfl, rfl, hat, by omega, by rw [HZ.out, List.take_length], O1.out, G1.out⟩
      case round =>
        clear O1 G1 hLt ht hti
        obtain ⟨t, L, rfl, rfl, ht, hL, hwt, ho, hg⟩ := hrel
        have O : Hid (Owns gw wr [(3, .slice (some ⟨gw, 0, none⟩) z.length z.length, fvals z.length fun i => if i < L then 0 else z.getD i 0)]) := ho
        have G2 : Hid (wo.grownBy wr none) := hg
        have HW : Hid (ws.getD t [] = z.take L) := hwt
        obtain ⟨c0, c1, c2, c3⟩ := (M0.out.grown (grown_trans G.out hg)) t ht
        have hti : (t : Int) < (N : Int) := by omega
        clear ho hg hwt
        rcases ND.out t (by rw [HL.out]; exact ht) with ⟨ht0, hf, hw⟩ | ⟨j, hj, hf, hw⟩
        · clear ht0
          rw [hf] at c2
          have hL0 : 0 = L := by
            have := congrArg List.length (hw.symm.trans HW.out)
            rw [List.length_nil, List.length_take] at this
            omega
          subst hL0
          have HI : Hid (Owns w.heap.size wr [(3, .slice (some ⟨gw, 0, none⟩) z.length z.length, vals (natInts z))]) := by
            have h1 := O.out
            rw [fvals_congr (g := fun i => z.getD i 0) (fun i hi => by rw [if_neg (by omega)]), fvals_list] at h1
            exact h1.base (by rw [← HGW.out]; exact G.out.size)
          have Gw : Hid (w.grownBy wr none) := grown_trans G.out G2.out
          clear hf hw
          go_wp2_with fail
          go_ret
          exact ⟨_, _, by rw [HZ.out]; rfl, by rw [HZ.out]; exact HI.out, Gw.out⟩
        · rw [hf] at c2
          have hlen := congrArg List.length (hw.symm.trans HW.out)
          simp only [List.length_append, List.length_singleton, List.length_take] at hlen
          have hL1 : 1 ≤ L := by omega
          obtain ⟨L', hLe⟩ : ∃ L', L = L' + 1 := ⟨L - 1, by omega⟩
          subst hLe
          have htk : z.take (L' + 1) = z.take L' ++ [z.getD L' 0] := by
            rw [List.take_add_one]; simp [List.getD, show L' < z.length by omega]
          have happ := hw.symm.trans (HW.out.trans htk)
          obtain ⟨e1, e2⟩ := List.append_inj' happ rfl
          have e3 : Lt t = z.getD L' 0 := by simpa using e2
          have HW2 : Hid (ws.getD j [] = z.take L') := e1
          have xw := O.out.cell (fvals_get (f := fun i => if i < L' + 1 then 0 else z.getD i 0) (show L' < z.length by omega))
          have fw := O.out.fz L'
          have O2 : Hid (Owns gw (wr.setCell ⟨gw, L', none⟩ (.int .i64 ((Lt t : Nat) : Int))) [(3, .slice (some ⟨gw, 0, none⟩) z.length z.length, fvals z.length fun i => if i < L' then 0 else z.getD i 0)]) := by
            have h1 := O.out.set (i := L') (by omega) (.int .i64 ((Lt t : Nat) : Int))
            rw [fvals_upd (by omega), fvals_congr (g := fun i => if i < L' then 0 else z.getD i 0) (fun i hi => by
              by_cases e : i = L'
              · subst e; rw [upd_same, if_neg (by omega), e3]
              · rw [upd_ne e]
                by_cases e4 : i < L'
                · rw [if_pos e4, if_pos (by omega)]
                · rw [if_neg e4, if_neg (by omega)])] at h1
            exact h1
          have G3 : Hid (wo.grownBy (wr.setCell ⟨gw, L', none⟩ (.int .i64 ((Lt t : Nat) : Int))) none) := grown_new G2.out (grown_set _ _ _) (by rw [HGW.out]; exact Nat.le_refl _)
          obtain ⟨d0, d1, d2, d3⟩ := (M0.out.grown (grown_trans G.out G3.out)) t ht
          rw [hf] at d2
          have hji : (0 : Int) ≤ (j : Int) := by omega
          have hLi : (L' : Int) < (z.length : Int) := by omega
          rw [if_pos (by omega)] at xw
          clear hf hw happ e1 e2 e3 htk hlen O
          generalize Lt t = lt at *
          go_wp2_with fail
          go_roundw
          case rel => exact ⟨j, L', by go_num, rfl, by omega, by omega, HW2.out, O2.out, G3.out⟩
          case measure => simp [intOf]; omega
    · rw [hf] at c2
      have hLt2 : L + 1 + (ws.getD j []).length = z.length := by rw [hw, List.length_append, List.length_singleton] at hLt; omega
      clear hf hw hLt
      have hji : (0 : Int) ≤ (j : Int) := by omega
      go_wp2_with fail
      go_roundw
      case rel => exact ⟨j, L + 1, by go_num, rfl, by omega, hLt2, G.out⟩
      case measure => simp [intOf]; omega

end Go.Proofs.YtmbbkjpfmmnabaaDoor

namespace Go.Proofs.YtmbbkjpfmmnabaaDoor
open Go.RowKit
set_option linter.unusedVariables false

/-- The word tells two states apart. -/
def tellT (δ : Nat → Nat → Nat) (m : Nat → Bool) (p q : Nat) (z : List Nat) : Bool := m (z.foldl δ p) != m (z.foldl δ q)
def ApartPost (T : List Nat → Bool) (l : Nat) (w : World) (E : Ending) (w' : World) : Prop :=
  ∃ (zs : List Nat) (is : Bool) (a : Option Addr) (c : Nat), E = .returned (.tuple #[.slice a zs.length c, .bool is]) ∧ FirstOf T l zs is ∧ zs.length ≤ 100000000 ∧ Owns w.heap.size w' [(3, .slice a zs.length c, vals (natInts zs))] ∧ w.grownBy w' none
def ApartNPost (y : Int) (w : World) (E : Ending) (w' : World) : Prop :=
  E = .returned (.tuple #[.slice none 0 0, .bool false, .int .i64 y]) ∧ w.grownBy w' none
def ApartGPost (T : List Nat → Bool) (l : Nat) (w : World) (E : Ending) (w' : World) : Prop :=
  ∃ (zs : List Nat) (is : Bool) (a : Option Addr) (c : Nat), E = .returned (.tuple #[.slice a zs.length c, .bool is, .int .i64 0]) ∧ FirstOf T l zs is ∧ zs.length ≤ 100000000 ∧ Owns w.heap.size w' [(3, .slice a zs.length c, vals (natInts zs))] ∧ w.grownBy w' none

end Go.Proofs.YtmbbkjpfmmnabaaDoor

namespace Go.Proofs.YtmbbkjpfmmnabaaDoor
open Go.RowKit
set_option linter.unusedVariables false

set_option maxHeartbeats 1600000 in
set_option maxRecDepth 100000 in
theorem apartE_bad (L S p q : Int) (R : List (List Int)) (M : List Int) (a a' : Option Addr) (c c' : Nat) (w : World) (h : DetAt w ⟨L, S, R, M⟩ a a') (hb : checkF ⟨L, S, R, M⟩ ≠ 0) :
    Calls Tryd.prog 48 #[.agg #[.int .i64 L, .int .i64 S, .slice a R.length c, .slice a' M.length c'], .int .i64 p, .int .i64 q] w (ApartNPost (checkF ⟨L, S, R, M⟩) w) := by
  have HG : Hid (∀ o, w.grownBy (w.alloc o) none) := fun o => grown_alloc w o
  have HC : Hid (∀ W, w.grownBy W none → Calls Tryd.prog 36 #[.agg #[.int .i64 L, .int .i64 S, .slice a R.length c, .slice a' M.length c']] W fun e w' => e = .returned (.int .i64 (checkF ⟨L, S, R, M⟩)) ∧ W.grownBy w' none) := fun W hW => check_any L S R M a a' c c' W (h.grown hW)
  obtain ⟨y, hy⟩ : ∃ y, checkF ⟨L, S, R, M⟩ = y := ⟨_, rfl⟩
  rw [hy] at HC hb ⊢
  have hy' : (y != 0) = true := by simpa using hb
  have hy'' : (y == 0) = false := by simpa using hb
  clear hy h hb
  go_enter Tryd.func48, Tryd.ntmps48
  go_wp2_with fail
  refine (HC.out _ (HG.out _)).mono ?_
  rintro e w2 ⟨rfl, hg2⟩
  have G2 : Hid (w.grownBy w2 none) := grown_trans (HG.out _) hg2
  clear hg2
  go_wp2_with fail
  exact bodyPost_ret (v := .tuple #[.slice none 0 0, .bool false, .int .i64 y]) (by simp [results, Tryd.results48, go_sem]) rfl ⟨rfl, G2.out⟩

set_option maxHeartbeats 1600000 in
set_option maxRecDepth 100000 in
theorem apartE_out (L S p q : Int) (R : List (List Int)) (M : List Int) (a a' : Option Addr) (c c' : Nat) (w : World) (h : DetAt w ⟨L, S, R, M⟩ a a') (hG : Good ⟨L, S, R, M⟩) (hpq : ¬ (IsSt p R.length ∧ IsSt q R.length)) :
    Calls Tryd.prog 48 #[.agg #[.int .i64 L, .int .i64 S, .slice a R.length c, .slice a' M.length c'], .int .i64 p, .int .i64 q] w (ApartNPost 2 w) := by
  have HG : Hid (∀ o, w.grownBy (w.alloc o) none) := fun o => grown_alloc w o
  have HC : Hid (∀ W, w.grownBy W none → Calls Tryd.prog 36 #[.agg #[.int .i64 L, .int .i64 S, .slice a R.length c, .slice a' M.length c']] W fun e w' => e = .returned (.int .i64 0) ∧ W.grownBy w' none) := fun W hW => by
    have := check_any L S R M a a' c c' W (h.grown hW)
    rw [checkF_good hG] at this
    exact this
  have HI : Hid (∀ x W, Calls Tryd.prog 80 #[.agg #[.int .i64 L, .int .i64 S, .slice a R.length c, .slice a' M.length c'], .int .i64 x] W (TellsB (IsSt x R.length) W)) := fun x W => isState_any L S x R M a a' c c' W
  have HPQ : Hid (¬ (IsSt p R.length ∧ IsSt q R.length)) := hpq
  clear h hG hpq
  go_enter Tryd.func48, Tryd.ntmps48
  go_wp2_with fail
  refine (HC.out _ (HG.out _)).mono ?_
  rintro e w2 ⟨rfl, hg2⟩
  obtain ⟨b0, b1, b2, b3⟩ := box4 hg2
  have G2 : Hid (w.grownBy w2 none) := grown_trans (HG.out _) hg2
  clear hg2
  go_wp2_with fail
  refine (HI.out p _).mono ?_
  rintro e w3 ⟨bp, rfl, hbp, hg3⟩
  have d0 := hg3.cell b0 (by simp)
  have d1 := hg3.cell b1 (by simp)
  have d2 := hg3.cell b2 (by simp)
  have d3 := hg3.cell b3 (by simp)
  have HBp : Hid (bp = true ↔ IsSt p R.length) := hbp
  have G3 : Hid (w.grownBy w3 none) := grown_trans G2.out hg3
  clear hbp hg3 b0 b1 b2 b3 G2
  cases bp with
  | false =>
    go_wp2_with fail
    exact bodyPost_ret (v := .tuple #[.slice none 0 0, .bool false, .int .i64 2]) (by simp [results, Tryd.results48, go_sem]) rfl ⟨rfl, G3.out⟩
  | true =>
    have HP : Hid (IsSt p R.length) := HBp.out.1 rfl
    clear HBp
    go_wp2_with fail
    refine (HI.out q _).mono ?_
    rintro e w4 ⟨bq, rfl, hbq, hg4⟩
    have hf : bq = false := by
      cases bq with
      | false => rfl
      | true => exact absurd ⟨HP.out, hbq.1 rfl⟩ HPQ.out
    subst hf
    have G4 : Hid (w.grownBy w4 none) := grown_trans G3.out hg4
    clear hbq hg4 d0 d1 d2 d3
    go_wp2_with fail
    exact bodyPost_ret (v := .tuple #[.slice none 0 0, .bool false, .int .i64 2]) (by simp [results, Tryd.results48, go_sem]) rfl ⟨rfl, G4.out⟩

set_option maxHeartbeats 1600000 in
set_option maxRecDepth 100000 in
theorem apartE_good (L S : Int) (p q l : Nat) (R : List (List Int)) (M : List Int) (a a' : Option Addr) (c c' : Nat) (w : World) (T : List Nat → Bool) (h : DetAt w ⟨L, S, R, M⟩ a a') (hG : Good ⟨L, S, R, M⟩) (hp : p < R.length) (hq : q < R.length)
    (hA : ∀ W, w.grownBy W none → Calls Tryd.prog 39 #[.agg #[.int .i64 L, .int .i64 S, .slice a R.length c, .slice a' M.length c'], .int .i64 (p : Nat), .int .i64 (q : Nat)] W (ApartPost T l W)) :
    Calls Tryd.prog 48 #[.agg #[.int .i64 L, .int .i64 S, .slice a R.length c, .slice a' M.length c'], .int .i64 (p : Nat), .int .i64 (q : Nat)] w (ApartGPost T l w) := by
  have HG : Hid (∀ o, w.grownBy (w.alloc o) none) := fun o => grown_alloc w o
  have HC : Hid (∀ W, w.grownBy W none → Calls Tryd.prog 36 #[.agg #[.int .i64 L, .int .i64 S, .slice a R.length c, .slice a' M.length c']] W fun e w' => e = .returned (.int .i64 0) ∧ W.grownBy w' none) := fun W hW => by
    have := check_any L S R M a a' c c' W (h.grown hW)
    rw [checkF_good hG] at this
    exact this
  have HI : Hid (∀ (x : Nat) W, x < R.length → Calls Tryd.prog 80 #[.agg #[.int .i64 L, .int .i64 S, .slice a R.length c, .slice a' M.length c'], .int .i64 (x : Nat)] W fun e w' => e = .returned (.bool true) ∧ W.grownBy w' none) := fun x W hx => by
    refine (isState_any L S x R M a a' c c' W).mono ?_
    rintro e w' ⟨b, rfl, hb, hg⟩
    have : b = true := hb.2 ⟨by omega, by omega⟩
    subst this
    exact ⟨rfl, hg⟩
  have HA : Hid (∀ W, w.grownBy W none → Calls Tryd.prog 39 #[.agg #[.int .i64 L, .int .i64 S, .slice a R.length c, .slice a' M.length c'], .int .i64 (p : Nat), .int .i64 (q : Nat)] W (ApartPost T l W)) := hA
  clear h hG hA
  go_enter Tryd.func48, Tryd.ntmps48
  go_wp2_with fail
  refine (HC.out _ (HG.out _)).mono ?_
  rintro e w2 ⟨rfl, hg2⟩
  obtain ⟨b0, b1, b2, b3⟩ := box4 hg2
  have G2 : Hid (w.grownBy w2 none) := grown_trans (HG.out _) hg2
  clear hg2
  go_wp2_with fail
  refine (HI.out p _ hp).mono ?_
  rintro e w3 ⟨rfl, hg3⟩
  have d0 := hg3.cell b0 (by simp)
  have d1 := hg3.cell b1 (by simp)
  have d2 := hg3.cell b2 (by simp)
  have d3 := hg3.cell b3 (by simp)
  have G3 : Hid (w.grownBy w3 none) := grown_trans G2.out hg3
  clear hg3 b0 b1 b2 b3 G2
  go_wp2_with fail
  refine (HI.out q _ hq).mono ?_
  rintro e w4 ⟨rfl, hg4⟩
  have f0 := hg4.cell d0 (by simp)
  have f1 := hg4.cell d1 (by simp)
  have f2 := hg4.cell d2 (by simp)
  have f3 := hg4.cell d3 (by simp)
  have G4 : Hid (w.grownBy w4 none) := grown_trans G3.out hg4
  clear hg4 d0 d1 d2 d3 G3
  go_wp2_with fail
  refine (HA.out _ G4.out).mono ?_
  rintro e w5 ⟨zs, is, az, cz, rfl, h1, h2, h3, h4⟩
  have Fin : Hid (ApartGPost T l w (.returned (.tuple #[.slice az zs.length cz, .bool is, .int .i64 0])) w5) := ⟨zs, is, az, cz, rfl, h1, h2, h3.base G4.out.size, grown_trans G4.out h4⟩
  clear h1 h2 h3 h4 f0 f1 f2 f3
  generalize zs.length = nz at *
  go_wp2_with fail
  exact bodyPost_ret (v := .tuple #[.slice az nz cz, .bool is, .int .i64 0]) (by simp [results, Tryd.results48, go_sem]) rfl Fin.out

end Go.Proofs.YtmbbkjpfmmnabaaDoor
