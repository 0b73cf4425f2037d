/- What the solver writes: who wins, how one stays in a part, which moves are dropped. -/
import Derived.Test.YtnlkdihfoekjmaaGGive
namespace Go.Proofs.Ytnlkdihfoekjmaa
open Go.RowKit
set_option linter.unusedVariables false

theorem grown_turn {w w' : World} {g : Nat} {S : Nat → Prop} (h : Turn S w w') (p : Nat) (v : Value) (hg : S g) : Turn S w (w'.setCell ⟨g, p, none⟩ v) := h.step (grown_set _ _ _) (.inl hg)

def GivePost (G : Gm) (b : Nat) (f : Nat → Int) (w : World) (E : Ending) (w' : World) : Prop :=
  E = .returned (.tuple #[]) ∧ IRow w' b G.n G.n f ∧ Turn (fun x => x = b) w w'
def giveF (o : Nat → Bool) (i : Int) (Wn : Nat → Int) : Nat → Int := fun p => if o p = true then i else Wn p

set_option maxHeartbeats 3200000 in
set_option maxRecDepth 100000 in
theorem give_any (G : Gm) (fr : Nat → List Nat) (B : Box) (g c : Nat) (i : Int) (o : Nat → Bool) (Wn : Nat → Int) (w : World) (hR : Ready G fr B w) (h : BRow w g G.n c o) (hW : IRow w B.bw G.n G.n Wn) (hn : G.n ≤ 100) :
    Calls Try.prog 41 #[.pointer (some ⟨B.s, 0, none⟩), .int .i64 i, .slice (some ⟨g, 0, none⟩) G.n c] w (GivePost G B.bw (giveF o i Wn) w) := by
  have R : Hid (Ready G fr B w) := hR
  have HP : Hid (Calls Try.prog 47 #[.slice (some ⟨g, 0, none⟩) G.n c] w (PlcsPost G.n o w)) := places_any G.n g c o w h hn
  have HWn : Hid (IRow w B.bw G.n G.n Wn) := hW
  have hlw := hW.lt
  obtain ⟨P, hP⟩ : ∃ P, P = GivePost G B.bw (giveF o i Wn) w := ⟨_, rfl⟩
  have HPo : Hid (P = GivePost G B.bw (giveF o i Wn) w) := hP
  rw [← hP]
  obtain ⟨n, hnn⟩ : ∃ n, G.n = n := ⟨_, rfl⟩
  have HN : Hid (G.n = n) := hnn
  rw [hnn] at HP HWn hn ⊢
  clear hR h hP hnn hW
  go_enter Try.func41, Try.ntmps41
  go_wp2_with fail
  refine HP.out.mono ?_
  rintro E w2 ⟨a, ca, m, hm, rfl, ho, hg2⟩
  have O2 : Hid (Owns w.heap.size w2 [(3, .slice a m ca, nvals (plcs n o))]) := ho
  have HM : Hid (m = (plcs n o).length) := hm
  have hm60 : m ≤ 100 := by have := plcs_len n o; omega
  have R2 : Hid (IRow w2 B.bw n n Wn) := HWn.out.kept hg2
  have T2 : Hid (Turn (fun x => x = B.bw) w w2) := Turn.of hg2
  clear HP ho hg2 hm HWn
  go_wp2_with fail
  go_loopw [11] (fun v wr => ∃ k : Nat, k ≤ m ∧ v = .int .i64 k ∧ IRow wr B.bw n n (fun p => if p ∈ (plcs n o).take k then i else Wn p) ∧ Owns w.heap.size wr [(3, .slice a m ca, nvals (plcs n o))] ∧ Turn (fun x => x = B.bw) w wr) (fun v _ => m - (intOf v).toNat)
  case atStart => exact ⟨0, by omega, rfl, R2.out.congr (fun p hp => by simp), O2.out, T2.out⟩
  case round =>
    clear R2 O2 T2
    obtain ⟨k, hk, rfl, hr, ho, hg⟩ := hrel
    have RR : Hid (IRow wr B.bw n n (fun p => if p ∈ (plcs n o).take k then i else Wn p)) := hr
    have O : Hid (Owns w.heap.size wr [(3, .slice a m ca, nvals (plcs n o))]) := ho
    have TT : Hid (Turn (fun x => x = B.bw) w wr) := hg
    clear hr ho hg
    by_cases hlt : k < m
    · have hki : (k : Int) < (m : Int) := by omega
      have hkl : k < (plcs n o).length := by rw [← HM.out]; exact hlt
      obtain ⟨b, off, rfl, hc⟩ := O.out.nats.2.at hkl
      have hck := hc k hkl
      have HT : Hid ((plcs n o).take (k + 1) = (plcs n o).take k ++ [(plcs n o).getD k 0]) := take_get hkl
      have hmem := plcs_mem.1 (getD_mem hkl)
      obtain ⟨p, hp⟩ : ∃ p, (plcs n o).getD k 0 = p := ⟨_, rfl⟩
      rw [hp] at hck HT hmem
      have hpn := hmem.1
      have h1 := (R.out wr (TT.out.mono (fun x _ e => .inl e))).won
      rw [HN.out] at h1
      have hpi : (p : Int) < (n : Int) := by omega
      have f0 := RR.out.frozen p
      have c0 := RR.out.cell hpn
      have OS : Hid (∀ v, Owns w.heap.size (wr.setCell ⟨B.bw, p, none⟩ v) [(3, .slice (some ⟨b, off, none⟩) m ca, nvals (plcs n o))]) := fun v => O.out.below (grown_set _ _ _) hlw
      have TS : Hid (∀ v, Turn (fun x => x = B.bw) w (wr.setCell ⟨B.bw, p, none⟩ v)) := fun v => grown_turn TT.out _ _ rfl
      have RS : Hid (IRow (wr.setCell ⟨B.bw, p, none⟩ (.int .i64 i)) B.bw n n (fun q => if q ∈ (plcs n o).take (k + 1) then i else Wn q)) := RR.out.put hpn (by simp [HT.out]) (fun j hj => by simp [HT.out, hj])
      clear hc hp hmem
      generalize (if p ∈ (plcs n o).take k then i else Wn p) = z0 at *
      go_wp2_with fail
      go_roundw
      case rel => exact ⟨k + 1, by omega, by go_num, RS.out, OS.out _, TS.out _⟩
      case measure => simp [intOf]; omega
    · have hki : ¬ (k : Int) < (m : Int) := by omega
      have HF : Hid (IRow wr B.bw n n (giveF o i Wn)) := RR.out.congr (fun p hp => by
        rw [List.take_of_length_le (by rw [← HM.out]; omega)]
        by_cases e : o p = true
        · simp [plcs_mem, hp, e, giveF]
        · simp [plcs_mem, e, giveF])
      go_wp2_with fail
      go_end0
      rw [HPo.out]
      exact ⟨rfl, by rw [HN.out]; exact HF.out, TT.out⟩

/-- The last of a list that is in a set. -/
def lastIn (o : Nat → Bool) (l : List Nat) (d : Int) : Int := l.foldl (fun a q => if o q = true then (q : Int) else a) d
theorem lastIn_snoc (o : Nat → Bool) (l : List Nat) (q : Nat) (d : Int) : lastIn o (l ++ [q]) d = if o q = true then (q : Int) else lastIn o l d := by simp [lastIn]
theorem lastIn_some {o : Nat → Bool} {l : List Nat} {d : Int} (h : ∃ q, q ∈ l ∧ o q = true) : ∃ q : Nat, q ∈ l ∧ o q = true ∧ lastIn o l d = (q : Int) := by
  have key : ∀ (l : List Nat) (d : Int), lastIn o l d = d ∨ ∃ q : Nat, q ∈ l ∧ o q = true ∧ lastIn o l d = (q : Int) := by
    intro l
    induction l with
    | nil => intro d; exact .inl rfl
    | cons x l ih =>
      intro d
      have e : lastIn o (x :: l) d = lastIn o l (if o x = true then (x : Int) else d) := rfl
      rw [e]
      rcases ih (if o x = true then (x : Int) else d) with h1 | ⟨q, h1, h2, h3⟩
      · by_cases hx : o x = true
        · exact .inr ⟨x, by simp, hx, by rw [h1]; simp [hx]⟩
        · rw [h1]; simp [hx]
      · exact .inr ⟨q, by simp [h1], h2, h3⟩
  obtain ⟨q, hq, ho⟩ := h
  obtain ⟨l1, l2, rfl⟩ := List.append_of_mem hq
  have e : lastIn o (l1 ++ q :: l2) d = lastIn o l2 (q : Int) := by simp [lastIn, List.foldl_append, ho]
  rw [e]
  rcases key l2 (q : Int) with h1 | ⟨r, h1, h2, h3⟩
  · exact ⟨q, by simp, ho, h1⟩
  · exact ⟨r, by simp [h1], h2, h3⟩
def stayF (G : Gm) (so o : Nat → Bool) (M : Nat → Int) : Nat → Int := fun p => if so p = true then lastIn o (G.nx p) (M p) else M p

set_option maxHeartbeats 3200000 in
set_option maxRecDepth 100000 in
theorem stay_any (G : Gm) (fr : Nat → List Nat) (B : Box) (g c g' c' : Nat) (so o : Nat → Bool) (M : Nat → Int) (w : World) (hR : Ready G fr B w) (h : BRow w g G.n c so) (h' : BRow w g' G.n c' o) (hgm : g' ≠ B.bm) (hW : IRow w B.bm G.n G.n M) (hG : GoodG G) :
    Calls Try.prog 43 #[.pointer (some ⟨B.s, 0, none⟩), .slice (some ⟨g, 0, none⟩) G.n c, .slice (some ⟨g', 0, none⟩) G.n c'] w (GivePost G B.bm (stayF G so o M) w) := by
  have hn := hG.n60
  have R : Hid (Ready G fr B w) := hR
  have GD : Hid (GoodG G) := hG
  have HP : Hid (Calls Try.prog 47 #[.slice (some ⟨g, 0, none⟩) G.n c] w (PlcsPost G.n so w)) := places_any G.n g c so w h hn
  have HWn : Hid (IRow w B.bm G.n G.n M) := hW
  have HO : Hid (∀ W, Turn (fun x => x = B.bm) w W → BRow W g' G.n c' o) := fun W hT => h'.turn hT hgm
  have hlw := hW.lt
  obtain ⟨P, hP⟩ : ∃ P, P = GivePost G B.bm (stayF G so o M) w := ⟨_, rfl⟩
  have HPo : Hid (P = GivePost G B.bm (stayF G so o M) w) := hP
  rw [← hP]
  obtain ⟨n, hnn⟩ : ∃ n, G.n = n := ⟨_, rfl⟩
  have HN : Hid (G.n = n) := hnn
  rw [hnn] at HP HWn HO hn ⊢
  clear hR h hP hnn hW hgm h' hG
  go_enter Try.func43, Try.ntmps43
  go_wp2_with fail
  refine HP.out.mono ?_
  rintro E w2 ⟨a, ca, m, hm, rfl, ho, hg2⟩
  have O2 : Hid (Owns w.heap.size w2 [(3, .slice a m ca, nvals (plcs n so))]) := ho
  have HM : Hid (m = (plcs n so).length) := hm
  have hm60 : m ≤ 100 := by have := plcs_len n so; omega
  have R2 : Hid (IRow w2 B.bm n n M) := HWn.out.kept hg2
  have T2 : Hid (Turn (fun x => x = B.bm) w w2) := Turn.of hg2
  clear HP ho hg2 hm HWn
  go_wp2_with fail
  go_loopw [13] (fun v wr => ∃ k : Nat, k ≤ m ∧ v = .int .i64 k ∧ IRow wr B.bm n n (fun p => if p ∈ (plcs n so).take k then lastIn o (G.nx p) (M p) else M p) ∧ Owns w.heap.size wr [(3, .slice a m ca, nvals (plcs n so))] ∧ Turn (fun x => x = B.bm) w wr) (fun v _ => m - (intOf v).toNat)
  case atStart => exact ⟨0, by omega, rfl, R2.out.congr (fun p hp => by simp), O2.out, T2.out⟩
  case round =>
    clear R2 O2 T2
    obtain ⟨k, hk, rfl, hr, ho, hg⟩ := hrel
    have RR : Hid (IRow wr B.bm n n (fun p => if p ∈ (plcs n so).take k then lastIn o (G.nx p) (M p) else M p)) := hr
    have O : Hid (Owns w.heap.size wr [(3, .slice a m ca, nvals (plcs n so))]) := ho
    have TT : Hid (Turn (fun x => x = B.bm) w wr) := hg
    clear hr ho hg
    by_cases hlt : k < m
    · have hki : (k : Int) < (m : Int) := by omega
      have hkl : k < (plcs n so).length := by rw [← HM.out]; exact hlt
      obtain ⟨b, off, rfl, hc⟩ := O.out.nats.2.at hkl
      have hck := hc k hkl
      have HT : Hid ((plcs n so).take (k + 1) = (plcs n so).take k ++ [(plcs n so).getD k 0]) := take_get hkl
      have HNo : Hid ((plcs n so).getD k 0 ∉ (plcs n so).take k) := take_no (plcs_nodup n so) hkl
      have hmem := plcs_mem.1 (getD_mem hkl)
      obtain ⟨p, hp⟩ : ∃ p, (plcs n so).getD k 0 = p := ⟨_, rfl⟩
      rw [hp] at hck HT hmem HNo
      have hpn := hmem.1
      have HB : Hid (SolB G fr B wr) := R.out wr (TT.out.mono (fun x _ e => .inr e))
      have h3 := HB.out.nx0
      obtain ⟨h5, _⟩ := HB.out.nx p (by rw [HN.out]; exact hpn)
      rw [HN.out] at h3
      have HXN : Hid (∀ W, Turn (fun x => x = B.bm) w W → NatsAt W (B.xa p) (G.nx p)) := fun W hW => ((R.out W (hW.mono (fun x _ e => .inr e))).nx p (by rw [HN.out]; exact hpn)).2
      have HQ : Hid (∀ q, q ∈ G.nx p → q < n) := fun q hq => by rw [← HN.out]; exact GD.out.lt p (by rw [HN.out]; exact hpn) q hq
      have HLn : Hid ((G.nx p).length ≤ 100) := by
        show _ ≤ _
        have := List.Nodup.length_le_of_subset (GD.out.nodup p (by rw [HN.out]; exact hpn)) (l₂ := List.range n) (fun q hq => List.mem_range.2 (HQ.out q hq))
        rw [List.length_range] at this
        omega
      have hpi : (p : Int) < (n : Int) := by omega
      obtain ⟨l, hl⟩ : ∃ l, G.nx p = l := ⟨_, rfl⟩
      have HL : Hid (G.nx p = l) := hl
      rw [hl] at h5 HXN HQ HLn
      obtain ⟨ln, hln⟩ : ∃ ln, l.length = ln := ⟨_, rfl⟩
      have HLl : Hid (l.length = ln) := hln
      have hln60 : ln ≤ 100 := by have := HLn.out; omega
      rw [hln] at h5
      generalize B.xa p = xa at *
      have I0 : Hid (IRow wr B.bm n n (fun q => if q = p then lastIn o (l.take 0) (M p) else if q ∈ (plcs n so).take k then lastIn o (G.nx q) (M q) else M q)) := RR.out.congr (fun q hq => by
        by_cases e : q = p
        · subst e; simp [HNo.out, lastIn]
        · simp [e])
      clear hc hp hmem hl hln HLn
      go_wp2_with fail
      clear h3 h5 hck
      go_loopw [26] (fun v wr => ∃ t : Nat, t ≤ ln ∧ v = .int .i64 t ∧ IRow wr B.bm n n (fun q => if q = p then lastIn o (l.take t) (M p) else if q ∈ (plcs n so).take k then lastIn o (G.nx q) (M q) else M q) ∧ Owns w.heap.size wr [(3, .slice (some ⟨b, off, none⟩) m ca, nvals (plcs n so))] ∧ Turn (fun x => x = B.bm) w wr) (fun v _ => ln - (intOf v).toNat)
      case atStart => exact ⟨0, by omega, rfl, I0.out, O.out, TT.out⟩
      case round =>
        clear I0 RR O TT HB
        obtain ⟨t, ht, rfl, hr, ho, hg⟩ := hrel
        have RR : Hid (IRow wr B.bm n n (fun q => if q = p then lastIn o (l.take t) (M p) else if q ∈ (plcs n so).take k then lastIn o (G.nx q) (M q) else M q)) := hr
        have O : Hid (Owns w.heap.size wr [(3, .slice (some ⟨b, off, none⟩) m ca, nvals (plcs n so))]) := ho
        have TT : Hid (Turn (fun x => x = B.bm) w wr) := hg
        clear hr ho hg
        by_cases hlt2 : t < ln
        · have hti : (t : Int) < (ln : Int) := by omega
          have htl : t < l.length := by rw [HLl.out]; exact hlt2
          obtain ⟨b5, o5, rfl, hc5⟩ := (HXN.out wr TT.out).at htl
          have h5 := hc5 t htl
          have HT5 : Hid (l.take (t + 1) = l.take t ++ [l.getD t 0]) := take_get htl
          have hqn := HQ.out _ (getD_mem htl)
          obtain ⟨q, hq⟩ : ∃ q, l.getD t 0 = q := ⟨_, rfl⟩
          rw [hq] at h5 HT5 hqn
          have hqi : (q : Int) < (n : Int) := by omega
          have c1 := (HO.out wr TT.out).cell hqn
          have c0 := RR.out.cell hpn
          simp only [if_true] at c0
          have f0 := RR.out.frozen p
          have h4 := (R.out wr (TT.out.mono (fun x _ e => .inr e))).move
          rw [HN.out] at h4
          have HCn : Hid (lastIn o (l.take (t + 1)) (M p) = if o q = true then (q : Int) else lastIn o (l.take t) (M p)) := by show _ = _; rw [HT5.out, lastIn_snoc]
          have OS : Hid (∀ v, Owns w.heap.size (wr.setCell ⟨B.bm, p, none⟩ v) [(3, .slice (some ⟨b, off, none⟩) m ca, nvals (plcs n so))]) := fun v => O.out.below (grown_set _ _ _) hlw
          have TS : Hid (∀ v, Turn (fun x => x = B.bm) w (wr.setCell ⟨B.bm, p, none⟩ v)) := fun v => grown_turn TT.out _ _ rfl
          have RS : Hid (∀ x : Int, lastIn o (l.take (t + 1)) (M p) = x → IRow (wr.setCell ⟨B.bm, p, none⟩ (.int .i64 x)) B.bm n n (fun q => if q = p then lastIn o (l.take (t + 1)) (M p) else if q ∈ (plcs n so).take k then lastIn o (G.nx q) (M q) else M q)) := fun x hx => RR.out.put hpn (by simp [hx]) (fun j hj => by simp [hj])
          have RK : Hid (lastIn o (l.take (t + 1)) (M p) = lastIn o (l.take t) (M p) → IRow wr B.bm n n (fun q => if q = p then lastIn o (l.take (t + 1)) (M p) else if q ∈ (plcs n so).take k then lastIn o (G.nx q) (M q) else M q)) := fun e => RR.out.congr (fun j hj => by rw [e])
          generalize lastIn o (l.take t) (M p) = ct at *
          clear hc5 hq RR
          cases hoq : o q with
          | true =>
            rw [hoq] at c1 HCn
            clear hoq
            go_wp2_with fail
            go_roundw
            case rel => exact ⟨t + 1, by omega, by go_num, RS.out _ (by rw [HCn.out]; simp), OS.out _, TS.out _⟩
            case measure => simp [intOf]; omega
          | false =>
            rw [hoq] at c1 HCn
            clear hoq
            go_wp2_with fail
            go_roundw
            case rel => exact ⟨t + 1, by omega, by go_num, RK.out (by rw [HCn.out]; simp), O.out, TT.out⟩
            case measure => simp [intOf]; omega
        · have hti : ¬ (t : Int) < (ln : Int) := by omega
          have RF : Hid (IRow wr B.bm n n (fun q => if q ∈ (plcs n so).take (k + 1) then lastIn o (G.nx q) (M q) else M q)) := RR.out.congr (fun j hj => by
            rw [List.take_of_length_le (by rw [HLl.out]; omega)]
            by_cases e : j = p
            · subst e; simp [HT.out, HL.out]
            · simp [HT.out, e])
          go_wp2_with fail
          go_roundw
          case rel => exact ⟨k + 1, by omega, by go_num, RF.out, O.out, TT.out⟩
          case measure => simp [intOf]; omega
    · have hki : ¬ (k : Int) < (m : Int) := by omega
      have HF : Hid (IRow wr B.bm n n (stayF G so o M)) := RR.out.congr (fun p hp => by
        rw [List.take_of_length_le (by rw [← HM.out]; omega)]
        by_cases e : so p = true
        · simp [plcs_mem, hp, e, stayF]
        · simp [plcs_mem, e, stayF])
      go_wp2_with fail
      go_end0
      rw [HPo.out]
      exact ⟨rfl, by rw [HN.out]; exact HF.out, TT.out⟩

def dropF (G : Gm) (Wn M : Nat → Int) : Nat → Int := fun p => if G.own p ≠ Wn p then -1 else M p
set_option maxHeartbeats 3200000 in
set_option maxRecDepth 100000 in
theorem dropMoves_any (G : Gm) (fr : Nat → List Nat) (B : Box) (Wn M : Nat → Int) (w : World) (hR : Ready G fr B w) (hW : IRow w B.bw G.n G.n Wn) (hM : IRow w B.bm G.n G.n M) (hne : B.bw ≠ B.bm) (hn : G.n ≤ 100) :
    Calls Try.prog 31 #[.pointer (some ⟨B.s, 0, none⟩)] w (GivePost G B.bm (dropF G Wn M) w) := by
  have R : Hid (Ready G fr B w) := hR
  have HW : Hid (∀ W, Turn (fun x => x = B.bm) w W → IRow W B.bw G.n G.n Wn) := fun W hT => hW.turn hT hne
  have HM : Hid (IRow w B.bm G.n G.n M) := hM
  obtain ⟨P, hP⟩ : ∃ P, P = GivePost G B.bm (dropF G Wn M) w := ⟨_, rfl⟩
  have HPo : Hid (P = GivePost G B.bm (dropF G Wn M) w) := hP
  rw [← hP]
  obtain ⟨n, hnn⟩ : ∃ n, G.n = n := ⟨_, rfl⟩
  have HN : Hid (G.n = n) := hnn
  have h0 := (hR.at (grown_refl _ _)).won
  rw [hnn] at HW HM hn h0
  clear hR hP hnn hW hM
  go_enter Try.func31, Try.ntmps31
  go_wp2_with fail
  clear h0
  go_loopw [10] (fun v wr => ∃ k : Nat, k ≤ n ∧ v = .int .i64 k ∧ IRow wr B.bm n n (fun p => if p < k ∧ G.own p ≠ Wn p then -1 else M p) ∧ Turn (fun x => x = B.bm) w wr) (fun v _ => n - (intOf v).toNat)
  case atStart => exact ⟨0, by omega, rfl, HM.out.congr (fun p hp => by simp), Turn.refl _ _⟩
  case round =>
    obtain ⟨k, hk, rfl, hr, hg⟩ := hrel
    have RR : Hid (IRow wr B.bm n n (fun p => if p < k ∧ G.own p ≠ Wn p then -1 else M p)) := hr
    have TT : Hid (Turn (fun x => x = B.bm) w wr) := hg
    clear hr hg
    by_cases hlt : k < n
    · have hki : (k : Int) < (n : Int) := by omega
      have HB : Hid (SolB G fr B wr) := R.out wr (TT.out.mono (fun x _ e => .inr e))
      have h1 := HB.out.own0
      have how := HB.out.own k (by rw [HN.out]; exact hlt)
      have h3 := HB.out.move
      rw [HN.out] at h1 h3
      have c1 := (HW.out wr TT.out).cell hlt
      have c0 := RR.out.cell hlt
      have f0 := RR.out.frozen k
      simp only [Nat.lt_irrefl, false_and, if_false] at c0
      have TS : Hid (∀ v, Turn (fun x => x = B.bm) w (wr.setCell ⟨B.bm, k, none⟩ v)) := fun v => grown_turn TT.out _ _ rfl
      have RS : Hid (G.own k ≠ Wn k → IRow (wr.setCell ⟨B.bm, k, none⟩ (.int .i64 (-1))) B.bm n n (fun p => if p < k + 1 ∧ G.own p ≠ Wn p then -1 else M p)) := fun e => RR.out.put hlt (by simp [e]) (fun j hj => by
        have : (j < k + 1) ↔ (j < k) := by omega
        simp [this])
      have RK : Hid (G.own k = Wn k → IRow wr B.bm n n (fun p => if p < k + 1 ∧ G.own p ≠ Wn p then -1 else M p)) := fun e => RR.out.congr (fun j hj => by
        by_cases ej : j = k
        · subst ej; simp [e]
        · have : (j < k + 1) ↔ (j < k) := by omega
          simp [this])
      clear RR HB
      generalize G.own k = op at *
      generalize Wn k = wk at *
      by_cases e : op = wk
      · have e' : (op != wk) = false := by simpa using e
        have RK2 : Hid _ := RK.out e
        clear e RS RK
        go_wp2_with fail
        go_roundw
        case rel => exact ⟨k + 1, by omega, by go_num, RK2.out, TT.out⟩
        case measure => simp [intOf]; omega
      · have e' : (op != wk) = true := by simpa using e
        have RS2 : Hid _ := RS.out e
        clear e RS RK
        go_wp2_with fail
        go_roundw
        case rel => exact ⟨k + 1, by omega, by go_num, RS2.out, TS.out _⟩
        case measure => simp [intOf]; omega
    · have hki : ¬ (k : Int) < (n : Int) := by omega
      have HF : Hid (IRow wr B.bm n n (dropF G Wn M)) := RR.out.congr (fun p hp => by
        have : p < k := by omega
        simp [dropF, this])
      go_wp2_with fail
      go_end0
      rw [HPo.out]
      exact ⟨rfl, by rw [HN.out]; exact HF.out, TT.out⟩

end Go.Proofs.Ytnlkdihfoekjmaa
