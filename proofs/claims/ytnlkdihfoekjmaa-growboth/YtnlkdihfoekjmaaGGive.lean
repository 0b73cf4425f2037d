/- What the solver writes: what each place needs, who wins, how one stays in a part, which moves are dropped. -/
import Derived.Test.YtnlkdihfoekjmaaGRead
namespace Go.Proofs.Ytnlkdihfoekjmaa
open Go.RowKit
set_option linter.unusedVariables false

theorem take_get {l : List Nat} {k : Nat} (h : k < l.length) : l.take (k + 1) = l.take k ++ [l.getD k 0] := by
  rw [List.take_add_one, List.getElem?_eq_getElem h]; simp [List.getD, h]
theorem take_no {l : List Nat} (hl : l.Nodup) {k : Nat} (h : k < l.length) : l.getD k 0 ∉ l.take k := by
  intro hm
  have h2 := hl
  rw [← List.take_append_drop k l, List.nodup_append] at h2
  have e : l.getD k 0 = l[k] := by simp [List.getD, h]
  refine h2.2.2 _ hm _ ?_ rfl
  rw [e, List.drop_eq_getElem_cons h]
  exact List.mem_cons_self
theorem getD_mem {l : List Nat} {k : Nat} (h : k < l.length) : l.getD k 0 ∈ l := by
  have : l.getD k 0 = l[k] := by simp [List.getD, h]
  rw [this]; exact List.getElem_mem h

def NeedPost (G : Gm) (i : Int) (o : Nat → Bool) (w : World) (E : Ending) (w' : World) : Prop :=
  ∃ g, E = .returned (.slice (some ⟨g, 0, none⟩) G.n G.n) ∧ IRow w' g G.n G.n (needF G i o) ∧ w.heap.size ≤ g ∧ w.grownBy w' none

set_option maxHeartbeats 3200000 in
set_option maxRecDepth 100000 in
theorem needs_any (G : Gm) (fr : Nat → List Nat) (B : Box) (g c : Nat) (i : Int) (o : Nat → Bool) (w : World) (hR : Ready G fr B w) (h : BRow w g G.n c o) (hG : GoodG G) :
    Calls Try.prog 49 #[.pointer (some ⟨B.s, 0, none⟩), .int .i64 i, .slice (some ⟨g, 0, none⟩) G.n c] w (NeedPost G i o w) := by
  have hn := hG.n60
  have R : Hid (Ready G fr B w) := hR
  have H : Hid (BRow w g G.n c o) := h
  have GD : Hid (GoodG G) := hG
  obtain ⟨P, hP⟩ : ∃ P, P = NeedPost G i o w := ⟨_, rfl⟩
  have HPo : Hid (P = NeedPost G i o w) := hP
  rw [← hP]
  obtain ⟨n, hnn⟩ : ∃ n, G.n = n := ⟨_, rfl⟩
  have HN : Hid (G.n = n) := hnn
  rw [hnn] at H hn ⊢
  obtain ⟨W1, hmk, r1, g1, s1⟩ := ints_make w n (by omega)
  have HP : Hid (Calls Try.prog 47 #[.slice (some ⟨g, 0, none⟩) n c] W1 (PlcsPost n o W1)) := places_any n g c o W1 (H.out.kept g1) hn
  have R1 : Hid (IRow W1 w.heap.size n n (fun _ => 0)) := r1
  have G1 : Hid (w.grownBy W1 none) := g1
  have S1 : Hid (W1.heap.size = w.heap.size + 1) := s1
  clear hR h hP hnn r1 g1 s1 hG
  go_enter Try.func49, Try.ntmps49
  go_wp2_with fail
  clear hmk
  refine HP.out.mono ?_
  rintro E w2 ⟨a, ca, m, hm, rfl, ho, hg2⟩
  have O2 : Hid (Owns W1.heap.size w2 [(3, .slice a m ca, nvals (plcs n o))]) := ho
  have HM : Hid (m = (plcs n o).length) := hm
  have hm60 : m ≤ 100 := by have := plcs_len n o; omega
  have R2 : Hid (IRow w2 w.heap.size n n (fun _ => 0)) := R1.out.kept hg2
  have G2 : Hid (w.grownBy w2 none) := grown_trans G1.out hg2
  obtain ⟨gn, hgn⟩ : ∃ gn, w.heap.size = gn := ⟨_, rfl⟩
  have HGn : Hid (w.heap.size = gn) := hgn
  rw [hgn] at R2 ⊢
  clear hgn HP ho hg2 hm R1 G1
  go_wp2_with fail
  go_loopw [18] (fun v wr => ∃ k : Nat, k ≤ m ∧ v = .int .i64 k ∧ IRow wr gn n n (fun p => if p ∈ (plcs n o).take k then needF G i o p else 0) ∧ Owns W1.heap.size wr [(3, .slice a m ca, nvals (plcs n o))] ∧ w.grownBy wr none) (fun v _ => m - (intOf v).toNat)
  case atStart => exact ⟨0, by omega, rfl, R2.out.congr (fun p hp => by simp), O2.out, G2.out⟩
  case round =>
    clear R2 O2 G2
    obtain ⟨k, hk, rfl, hr, ho, hg⟩ := hrel
    have RR : Hid (IRow wr gn n n (fun p => if p ∈ (plcs n o).take k then needF G i o p else 0)) := hr
    have O : Hid (Owns W1.heap.size wr [(3, .slice a m ca, nvals (plcs n o))]) := ho
    have GG : Hid (w.grownBy wr none) := hg
    clear hr ho hg
    by_cases hlt : k < m
    · have hki : (k : Int) < (m : Int) := by omega
      have hkl : k < (plcs n o).length := by rw [← HM.out]; exact hlt
      obtain ⟨b, off, rfl, hc⟩ := O.out.nats.2.at hkl
      have hck := hc k hkl
      have HT : Hid ((plcs n o).take (k + 1) = (plcs n o).take k ++ [(plcs n o).getD k 0]) := take_get hkl
      have hno := take_no (plcs_nodup n o) hkl
      have hmem := plcs_mem.1 (getD_mem hkl)
      obtain ⟨p, hp⟩ : ∃ p, (plcs n o).getD k 0 = p := ⟨_, rfl⟩
      rw [hp] at hck HT hno hmem
      obtain ⟨hpn, hop⟩ := hmem
      have HNo : Hid (p ∉ (plcs n o).take k) := hno
      have HOp : Hid (o p = true) := hop
      have h1 := (R.out.at GG.out).own0
      have how := (R.out.at GG.out).own p (by rw [HN.out]; exact hpn)
      rw [HN.out] at h1
      have hpi : (p : Int) < (n : Int) := by omega
      have f0 := RR.out.frozen p
      have c0 := RR.out.cell hpn
      simp only [hno, if_false] at c0
      have BL : Hid (gn < W1.heap.size) := by show _ < _; rw [S1.out, HGn.out]; omega
      have OS : Hid (∀ v, Owns W1.heap.size (wr.setCell ⟨gn, p, none⟩ v) [(3, .slice (some ⟨b, off, none⟩) m ca, nvals (plcs n o))]) := fun v => O.out.below (grown_set _ _ _) BL.out
      have GS : Hid (∀ v, w.grownBy (wr.setCell ⟨gn, p, none⟩ v) none) := fun v => grown_new GG.out (grown_set _ _ _) (by rw [HGn.out]; exact Nat.le_refl _)
      clear hc hp hno hop
      by_cases e : G.own p = i
      · have HNd : Hid (needF G i o p = 1) := by show _ = _; simp [needF, HOp.out, e]
        have RS : Hid (IRow (wr.setCell ⟨gn, p, none⟩ (.int .i64 1)) gn n n (fun q => if q ∈ (plcs n o).take (k + 1) then needF G i o q else 0)) := RR.out.put hpn (by simp [HT.out, HNd.out]) (fun j hj => by simp [HT.out, hj])
        have e' : (G.own p == i) = true := by simpa using e
        generalize G.own p = op at *
        clear e
        go_wp2_with fail
        go_roundw
        case rel => exact ⟨k + 1, by omega, by go_num, RS.out, OS.out _, GS.out _⟩
        case measure => simp [intOf]; omega
      · have HNd : Hid (needF G i o p = (cntL o (G.nx p) : Int)) := by show _ = _; simp [needF, HOp.out, e]
        have e' : (G.own p == i) = false := by simpa using e
        have h3 := (R.out.at GG.out).nx0
        obtain ⟨h5, _⟩ := (R.out.at GG.out).nx p (by rw [HN.out]; exact hpn)
        rw [HN.out] at h3
        have HXN : Hid (∀ W, w.grownBy W none → NatsAt W (B.xa p) (G.nx p)) := fun W hW => ((R.out.at hW).nx p (by rw [HN.out]; exact hpn)).2
        have HQ : Hid (∀ q, q ∈ G.nx p → q < n) := fun q hq => by rw [← HN.out]; exact GD.out.lt p (by rw [HN.out]; exact hpn) q hq
        have HLn : Hid ((G.nx p).length ≤ 100) := by
          show _ ≤ _
          have := List.Nodup.length_le_of_subset (GD.out.nodup p (by rw [HN.out]; exact hpn)) (l₂ := List.range n) (fun q hq => List.mem_range.2 (HQ.out q hq))
          rw [List.length_range] at this
          omega
        generalize G.own p = op at *
        clear e
        obtain ⟨l, hl⟩ : ∃ l, G.nx p = l := ⟨_, rfl⟩
        rw [hl] at h5 HNd HXN HQ HLn
        obtain ⟨ln, hln⟩ : ∃ ln, l.length = ln := ⟨_, rfl⟩
        have HLl : Hid (l.length = ln) := hln
        have hln60 : ln ≤ 100 := by have := HLn.out; omega
        rw [hln] at h5
        generalize B.xa p = xa at *
        have I0 : Hid (IRow wr gn n n (fun q => if q = p then (cntL o (l.take 0) : Int) else if q ∈ (plcs n o).take k then needF G i o q else 0)) := RR.out.congr (fun q hq => by
          by_cases e : q = p
          · subst e; simp [HNo.out, cntL]
          · simp [e])
        clear hl hln HLn c0 f0
        go_wp2_with fail
        clear h1 how h3 h5 hck
        go_loopw [44] (fun v wr => ∃ t : Nat, t ≤ ln ∧ v = .int .i64 t ∧ IRow wr gn n n (fun q => if q = p then (cntL o (l.take t) : Int) else if q ∈ (plcs n o).take k then needF G i o q else 0) ∧ Owns W1.heap.size wr [(3, .slice (some ⟨b, off, none⟩) m ca, nvals (plcs n o))] ∧ w.grownBy wr none) (fun v _ => ln - (intOf v).toNat)
        case atStart => exact ⟨0, by omega, rfl, I0.out, O.out, GG.out⟩
        case round =>
          clear I0 RR O GG OS GS
          obtain ⟨t, ht, rfl, hr, ho, hg⟩ := hrel
          have RR : Hid (IRow wr gn n n (fun q => if q = p then (cntL o (l.take t) : Int) else if q ∈ (plcs n o).take k then needF G i o q else 0)) := hr
          have O : Hid (Owns W1.heap.size wr [(3, .slice (some ⟨b, off, none⟩) m ca, nvals (plcs n o))]) := ho
          have GG : Hid (w.grownBy wr none) := hg
          clear hr ho hg
          by_cases hlt2 : t < ln
          · have hti : (t : Int) < (ln : Int) := by omega
            have htl : t < l.length := by rw [HLl.out]; exact hlt2
            obtain ⟨b5, o5, rfl, hc5⟩ := (HXN.out wr GG.out).at htl
            have h5 := hc5 t htl
            have HT5 : Hid (l.take (t + 1) = l.take t ++ [l.getD t 0]) := take_get htl
            have hqn := HQ.out _ (getD_mem htl)
            obtain ⟨q, hq⟩ : ∃ q, l.getD t 0 = q := ⟨_, rfl⟩
            rw [hq] at h5 HT5 hqn
            have hqi : (q : Int) < (n : Int) := by omega
            have c1 := (H.out.kept GG.out).cell hqn
            have c0 := RR.out.cell hpn
            simp only [if_true] at c0
            have f0 := RR.out.frozen p
            have hcl := cntL_le_len o (l.take t)
            have hcl2 : cntL o (l.take t) ≤ 100 := by rw [List.length_take] at hcl; omega
            have HCn : Hid (cntL o (l.take (t + 1)) = cntL o (l.take t) + (if o q = true then 1 else 0)) := by show _ = _; rw [HT5.out, cntL_snoc]
            have OS : Hid (∀ v, Owns W1.heap.size (wr.setCell ⟨gn, p, none⟩ v) [(3, .slice (some ⟨b, off, none⟩) m ca, nvals (plcs n o))]) := fun v => O.out.below (grown_set _ _ _) BL.out
            have GS : Hid (∀ v, w.grownBy (wr.setCell ⟨gn, p, none⟩ v) none) := fun v => grown_new GG.out (grown_set _ _ _) (by rw [HGn.out]; exact Nat.le_refl _)
            have RS : Hid (∀ x : Int, x = (cntL o (l.take (t + 1)) : Int) → IRow (wr.setCell ⟨gn, p, none⟩ (.int .i64 x)) gn n n (fun q => if q = p then (cntL o (l.take (t + 1)) : Int) else if q ∈ (plcs n o).take k then needF G i o q else 0)) := fun x hx => RR.out.put hpn (by simp [hx]) (fun j hj => by simp [hj])
            have RK : Hid (cntL o (l.take (t + 1)) = cntL o (l.take t) → IRow wr gn n n (fun q => if q = p then (cntL o (l.take (t + 1)) : Int) else if q ∈ (plcs n o).take k then needF G i o q else 0)) := fun e => RR.out.congr (fun j hj => by rw [e])
            generalize cntL o (l.take t) = ct at *
            clear hc5 hq hcl RR
            cases hoq : o q with
            | true =>
              rw [hoq] at c1 HCn
              clear hoq
              go_wp2_with fail
              go_roundw
              case rel => exact ⟨t + 1, by omega, by go_num, RS.out _ (by rw [HCn.out]; simp), OS.out _, GS.out _⟩
              case measure => simp [intOf]; omega
            | false =>
              rw [hoq] at c1 HCn
              clear hoq
              go_wp2_with fail
              go_roundw
              case rel => exact ⟨t + 1, by omega, by go_num, RK.out (by rw [HCn.out]; simp), O.out, GG.out⟩
              case measure => simp [intOf]; omega
          · have hti : ¬ (t : Int) < (ln : Int) := by omega
            have RF : Hid (IRow wr gn n n (fun q => if q ∈ (plcs n o).take (k + 1) then needF G i o q else 0)) := RR.out.congr (fun j hj => by
              rw [List.take_of_length_le (by rw [HLl.out]; omega)]
              by_cases e : j = p
              · subst e; simp [HT.out, HNd.out]
              · simp [HT.out, e])
            go_wp2_with fail
            go_roundw
            case rel => exact ⟨k + 1, by omega, by go_num, RF.out, O.out, GG.out⟩
            case measure => simp [intOf]; omega
    · have hki : ¬ (k : Int) < (m : Int) := by omega
      have HF : Hid (IRow wr gn n n (needF G i o)) := RR.out.congr (fun p hp => by
        rw [List.take_of_length_le (by rw [← HM.out]; omega)]
        by_cases e : o p = true
        · simp [plcs_mem, hp, e]
        · simp [plcs_mem, e, needF])
      go_wp2_with fail
      rw [HPo.out]
      refine ⟨gn, by rw [HN.out], by rw [HN.out]; exact HF.out, by rw [HGn.out]; exact Nat.le_refl _, GG.out⟩

end Go.Proofs.Ytnlkdihfoekjmaa
