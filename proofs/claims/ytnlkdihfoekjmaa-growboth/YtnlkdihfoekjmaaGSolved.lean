/- The program's solved: the solver is made, and all is solved. -/
import Derived.Test.YtnlkdihfoekjmaaGFrom
import Derived.Test.YtnlkdihfoekjmaaGRep
import Derived.Deep.CutRange
import Derived.Deep.DeepCutAuto
namespace Go.Proofs.Ytnlkdihfoekjmaa
open Go.RowKit
set_option linter.unusedVariables false

def AppG (ts : Array TypeId) (ty : TypeId) (args : Array Value) : Sem Value := Builtin.append_ ts ty args
theorem appg_fold (ts : Array TypeId) (ty : TypeId) (args : Array Value) : Builtin.append_ ts ty args = AppG ts ty args := rfl
attribute [local go_sem ↓] appg_fold

/-- A game in memory. -/
structure GmAt (w : World) (G : Gm) (B : Box) : Prop where
  own : ∀ p, p < G.n → w.cell? ⟨B.ob, B.oo + p, none⟩ = some (.int .i64 (G.own p))
  mark : ∀ p, p < G.n → w.cell? ⟨B.mb, B.mo + p, none⟩ = some (.int .i64 (G.mark p))
  nx : ∀ p, p < G.n → w.cell? ⟨B.xb, B.xo + p, none⟩ = some (.slice (B.xa p) (G.nx p).length (B.xd p)) ∧ NatsAt w (B.xa p) (G.nx p)
theorem NatsAt.grown {w w' : World} {a : Option Addr} {l : List Nat} (h : NatsAt w a l) (hg : w.grownBy w' none) : NatsAt w' a l := by
  rcases h with h | ⟨b, off, e, hc⟩
  · exact .inl h
  · exact .inr ⟨b, off, e, fun k hk => hg.cell (hc k hk) (by simp)⟩
theorem GmAt.grown {w w' : World} {G : Gm} {B : Box} (h : GmAt w G B) (hg : w.grownBy w' none) : GmAt w' G B :=
  ⟨fun p hp => hg.cell (h.own p hp) (by simp), fun p hp => hg.cell (h.mark p hp) (by simp), fun p hp => ⟨hg.cell (h.nx p hp).1 (by simp), (h.nx p hp).2.grown hg⟩⟩
abbrev u0B (B : Box) (n : Nat) : Value := .slice (some ⟨B.ob, B.oo, none⟩) n B.oc
abbrev u1B (B : Box) (n : Nat) : Value := .slice (some ⟨B.mb, B.mo, none⟩) n B.mc
abbrev u2B (B : Box) (n : Nat) : Value := .slice (some ⟨B.xb, B.xo, none⟩) n B.xc

def SolvedPost (G : Gm) (w : World) (E : Ending) (w' : World) : Prop :=
  ∃ bw bm W M, E = .returned (.agg #[.slice (some ⟨bw, 0, none⟩) G.n G.n, .slice (some ⟨bm, 0, none⟩) G.n G.n]) ∧ IRow w' bw G.n G.n W ∧ IRow w' bm G.n G.n (dropF G W M) ∧ Solved G (fun p => decide (p < G.n)) W M ∧ w.grownBy w' none

theorem owns_sub {B : Nat} {w : World} {its its' : List Item} (h : Owns B w its) (hs : its'.Sublist its) : Owns B w its' := ⟨fun it hm => h.1 it (hs.subset hm), h.2.sublist hs⟩

/-- The solver is ready. -/
theorem ready_of {G : Gm} {w wr : World} {B : Box} {n bw bm : Nat} {rs : List (Value × List Nat)} (hn : G.n = n) (h0 : GmAt w G B) (hg : w.grownBy wr none) (hrs : rs.map (·.2) = (List.range n).map (frF G)) (v v' : Value)
    (h : Owns w.heap.size wr (boxIt w.heap.size (u0B B n) (u1B B n) (u2B B n) n bw bm :: (23, .slice (some ⟨w.heap.size + 1 + 1, 0, none⟩) n n, rs.map (·.1)) :: (gRows rs ++ [numIt bw n, numIt bm n, wonIt w.heap.size v v']))) :
    ∃ B' : Box, B'.s = w.heap.size + 1 + 1 + 1 ∧ B'.bw = bw ∧ B'.bm = bm ∧ bw ≠ bm ∧ Ready G (frF G) B' wr ∧ IRow wr bw n n (fun _ => 0) ∧ IRow wr bm n n (fun _ => 0) ∧ w.heap.size ≤ bw ∧ w.heap.size ≤ bm ∧ w.heap.size + 1 ≠ bw ∧ w.heap.size + 1 ≠ bm := by
  have hlen : rs.length = n := by have := congrArg List.length hrs; simpa using this
  let B' : Box := { B with s := w.heap.size + 1 + 1 + 1, bw := bw, bm := bm, fb := w.heap.size + 1 + 1, fo := 0, fc := n, fa := fun p => match (rs.getD p (.slice none 0 0, [])).1 with | .slice a _ _ => a | _ => none, fd := fun p => match (rs.getD p (.slice none 0 0, [])).1 with | .slice _ _ c => c | _ => 0 }
  -- what is apart from who wins and how one moves
  have hw0 : Owns w.heap.size wr (numIt bw n :: numIt bm n :: (boxIt w.heap.size (u0B B n) (u1B B n) (u2B B n) n bw bm :: wonIt w.heap.size v v' :: frIts w.heap.size n rs)) := by
    refine h.perm ?_
    have e : (boxIt w.heap.size (u0B B n) (u1B B n) (u2B B n) n bw bm :: (23, .slice (some ⟨w.heap.size + 1 + 1, 0, none⟩) n n, rs.map (·.1)) :: (gRows rs ++ [numIt bw n, numIt bm n, wonIt w.heap.size v v'])) = (boxIt w.heap.size (u0B B n) (u1B B n) (u2B B n) n bw bm :: frIts w.heap.size n rs) ++ [numIt bw n, numIt bm n, wonIt w.heap.size v v'] := by simp [frIts]
    rw [e]
    refine List.perm_append_comm.trans ?_
    refine List.Perm.cons _ (List.Perm.cons _ ?_)
    exact List.Perm.swap _ _ _
  obtain ⟨hp1, hp2⟩ := List.pairwise_cons.1 hw0.2
  obtain ⟨hp3, hp4⟩ := List.pairwise_cons.1 hp2
  have hne : bw ≠ bm := by
    rcases hp1 (numIt bm n) (by simp) with e | e | e
    · cases e
    · cases e
    · simpa [Value.ownBlock] using e
  have apart : ∀ it, it ∈ (boxIt w.heap.size (u0B B n) (u1B B n) (u2B B n) n bw bm :: wonIt w.heap.size v v' :: frIts w.heap.size n rs) → ∀ g, it.2.1.ownBlock = some g → ¬ (g = bw ∨ g = bm) := by
    intro it hm g hg hc
    rcases hc with rfl | rfl
    · rcases hp1 it (List.mem_cons_of_mem _ hm) with e | e | e
      · cases e
      · rw [hg] at e; cases e
      · rw [hg] at e; exact e rfl
    · rcases hp3 it hm with e | e | e
      · cases e
      · rw [hg] at e; cases e
      · rw [hg] at e; exact e rfl
  have hbw := (hw0.row.lt bw rfl)
  have hbm := ((gat_2 hw0).row.lt bm rfl)
  have hT : Owns w.heap.size wr (boxIt w.heap.size (u0B B n) (u1B B n) (u2B B n) n bw bm :: wonIt w.heap.size v v' :: frIts w.heap.size n rs) := hw0.tail.tail
  have rowsN : ∀ p, p < n → ∃ a c, rs.getD p (.slice none 0 0, []) = (.slice a (frF G p).length c, frF G p) := fun p hp => by
    have h1 : rs[p]? = some (rs.getD p (.slice none 0 0, [])) := by simp [List.getD, hlen, hp]
    have h2 := congrArg (fun l => l[p]?) hrs
    simp only [List.getElem?_map, h1, List.getElem?_range hp, Option.map_some, Option.some.injEq] at h2
    obtain ⟨hi, a, c, e⟩ := hT.1 (3, (rs.getD p (.slice none 0 0, [])).1, nvals (rs.getD p (.slice none 0 0, [])).2) (by
      simp only [frIts, List.mem_cons]
      exact .inr (.inr (.inr (List.mem_map.2 ⟨_, List.mem_of_getElem? h1, rfl⟩))))
    simp only [nvals_len] at e
    rw [h2] at e
    exact ⟨a, c, Prod.ext e h2⟩
  refine ⟨B', rfl, rfl, rfl, hne, fun W ht => ?_, ?_, ?_, hbw.1, hbm.1, ?_, ?_⟩
  · have hT' := hT.turn ht (fun it hm g hg => apart it hm g hg)
    have hgW : w.grownBy W none := ((Turn.of hg : Turn (fun _ => False) w wr).trans ht (fun x hx => .inr (by rcases hx with rfl | rfl; exact hbw.1; exact hbm.1))).grown (fun x hx => hx.elim)
    have g1 := h0.grown hgW
    refine ⟨?_, g1.own, ?_, g1.mark, ?_, g1.nx, ?_, ?_, ?_, ?_⟩
    · rw [hn]; exact hT'.cell (i := 0) rfl
    · rw [hn]; exact hT'.cell (i := 1) rfl
    · rw [hn]; exact hT'.cell (i := 2) rfl
    · rw [hn]; exact hT'.cell (i := 3) rfl
    · rw [hn]; exact hT'.cell (i := 4) rfl
    · rw [hn]; exact hT'.cell (i := 5) rfl
    · intro p hp
      rw [hn] at hp
      obtain ⟨a, c, e⟩ := rowsN p hp
      have ea : B'.fa p = a := by simp only [B', e]
      have ec : B'.fd p = c := by simp only [B', e]
      rw [ea, ec]
      have hf : Owns w.heap.size W ((23, .slice (some ⟨w.heap.size + 1 + 1, 0, none⟩) n n, rs.map (·.1)) :: gRows rs) := hT'.tail.tail
      have h1 : rs[p]? = some (rs.getD p (.slice none 0 0, [])) := by simp [List.getD, hlen, hp]
      refine ⟨?_, ?_⟩
      · have := hf.cell (i := p) (u := .slice a (frF G p).length c) (by rw [List.getElem?_map, h1, e]; rfl)
        show W.cell? ⟨w.heap.size + 1 + 1, 0 + p, none⟩ = _
        rw [Nat.zero_add]; exact this
      · have hm : (3, Value.slice a (frF G p).length c, nvals (frF G p)) ∈ gRows rs := List.mem_map.2 ⟨_, List.mem_of_getElem? h1, by rw [e]⟩
        have hs : Owns w.heap.size W [(3, Value.slice a (frF G p).length c, nvals (frF G p))] := owns_sub hf.tail (List.singleton_sublist.2 hm)
        exact hs.nats.2
  · refine RowB.of_owns (B := w.heap.size) (r := []) ?_
    have := owns_sub hw0 (List.singleton_sublist.2 (show numIt bw n ∈ _ by simp))
    have e : List.replicate n (Value.int .i64 0) = (List.range n).map (fun _ => Value.int .i64 0) := by rw [eq_comm, List.eq_replicate_iff]; simp
    simpa [numIt, e] using this
  · refine RowB.of_owns (B := w.heap.size) (r := []) ?_
    have := owns_sub hw0 (List.singleton_sublist.2 (show numIt bm n ∈ _ by simp))
    have e : List.replicate n (Value.int .i64 0) = (List.range n).map (fun _ => Value.int .i64 0) := by rw [eq_comm, List.eq_replicate_iff]; simp
    simpa [numIt, e] using this
  · exact fun e => apart (wonIt w.heap.size v v') (by simp) (w.heap.size + 1) rfl (.inl e)
  · exact fun e => apart (wonIt w.heap.size v v') (by simp) (w.heap.size + 1) rfl (.inr e)

set_option maxHeartbeats 6400000 in
set_option maxRecDepth 100000 in
theorem solved_any (G : Gm) (B : Box) (w : World) (hG : GoodG G) (h : GmAt w G B) :
    Calls Try.prog 24 #[.agg #[u0B B G.n, u1B B G.n, u2B B G.n]] w (SolvedPost G w) := by
  have hn := hG.n60
  have hn1 := hG.n1
  have GD : Hid (GoodG G) := hG
  have H : Hid (GmAt w G B) := h
  obtain ⟨Po, hPo⟩ : ∃ Po, Po = SolvedPost G w := ⟨_, rfl⟩
  have HPo : Hid (Po = SolvedPost G w) := hPo
  rw [← hPo]
  obtain ⟨n, hnn⟩ : ∃ n, G.n = n := ⟨_, rfl⟩
  have HN : Hid (G.n = n) := hnn
  rw [hnn] at hn hn1 ⊢
  have hmr := fun W => make_rows W n (by omega)
  have hmi := fun W => make_nums W n (by omega)
  clear hG h hPo hnn
  go_enter Try.func24, Try.ntmps24
  go_wp2_with fail
  go_region
  go_wp2_with fail
  go_cut [4] (fun v4 wc => v4 = .pointer (some ⟨w.heap.size + 1 + 1 + 1, 0, none⟩) ∧ ∃ bw bm, ((bw = w.heap.size + 1 + 1 + 1 + 1 ∧ bm = w.heap.size + 1 + 1 + 1 + 1 + 1) ∨ (bm = w.heap.size + 1 + 1 + 1 + 1 ∧ bw = w.heap.size + 1 + 1 + 1 + 1 + 1)) ∧ wc = solW w (u0B B n) (u1B B n) (u2B B n) n bw bm)
  case first =>
    go_region
    all_goals
      go_wp2_with fail
      go_meet
      case rel => first | exact ⟨rfl, _, _, .inl ⟨rfl, rfl⟩, rfl⟩ | exact ⟨rfl, _, _, .inr ⟨rfl, rfl⟩, rfl⟩
  case rest =>
    obtain ⟨rfl, bw, bm, hb, hwc⟩ := hcut
    obtain ⟨o0, g0⟩ := solW_owns w (u0B B n) (u1B B n) (u2B B n) n bw bm hn hb
    rw [← hwc] at o0 g0
    obtain ⟨k0, hk0⟩ : ∃ k0, w.heap.size = k0 := ⟨_, rfl⟩
    have HK0 : Hid (w.heap.size = k0) := hk0
    have O0 : Hid (Owns k0 wc (boxIt k0 (u0B B n) (u1B B n) (u2B B n) n bw bm :: (23, .slice (some ⟨k0 + 1 + 1, 0, none⟩) n n, (List.replicate n (Value.slice none 0 0, ([] : List Nat))).map (·.1)) :: (gRows (List.replicate n (.slice none 0 0, [])) ++ [numIt bw n, numIt bm n, wonIt k0 (.slice none 0 0) (.slice none 0 0)]))) := by show Owns _ _ _; rw [← hk0]; exact o0
    have G0 : Hid (w.grownBy wc none) := g0
    rw [hk0]
    have xb2 := O0.out.cell (i := 2) rfl
    clear hmr hmi hb hwc o0 g0 hk0
    go_wp2_with fail
    clear xb2
    go_loopw [35] (fun v wr => ∃ (p : Nat) (rs : List (Value × List Nat)), p ≤ n ∧ v = .int .i64 p ∧ rs.map (·.2) = (List.range n).map (frL G p 0) ∧ Owns k0 wr (boxIt k0 (u0B B n) (u1B B n) (u2B B n) n bw bm :: (23, .slice (some ⟨k0 + 1 + 1, 0, none⟩) n n, rs.map (·.1)) :: (gRows rs ++ [numIt bw n, numIt bm n, wonIt k0 (.slice none 0 0) (.slice none 0 0)])) ∧ w.grownBy wr none) (fun v _ => n - (intOf v).toNat)
    case atStart =>
      refine ⟨0, List.replicate n (.slice none 0 0, []), by omega, rfl, ?_, O0.out, G0.out⟩
      rw [List.map_replicate, eq_comm, List.eq_replicate_iff]
      refine ⟨by simp, fun b hb => ?_⟩
      obtain ⟨x, _, rfl⟩ := List.mem_map.1 hb
      simp [frL]
    case round =>
      clear O0 G0
      obtain ⟨p, rs, hp, rfl, hrs, ho, hg⟩ := hrel
      have O : Hid (Owns k0 wr (boxIt k0 (u0B B n) (u1B B n) (u2B B n) n bw bm :: (23, .slice (some ⟨k0 + 1 + 1, 0, none⟩) n n, rs.map (·.1)) :: (gRows rs ++ [numIt bw n, numIt bm n, wonIt k0 (.slice none 0 0) (.slice none 0 0)]))) := ho
      have GG : Hid (w.grownBy wr none) := hg
      have HRs : Hid (rs.map (·.2) = (List.range n).map (frL G p 0)) := hrs
      clear hrs ho hg
      by_cases hlt : p < n
      · have hpi : (p : Int) < (n : Int) := by omega
        have hpG : p < G.n := by rw [HN.out]; exact hlt
        have c1 := ((H.out.grown GG.out).nx p hpG).1
        have HXN : Hid (∀ W, w.grownBy W none → NatsAt W (B.xa p) (G.nx p)) := fun W hW => ((H.out.grown hW).nx p hpG).2
        have HQ : Hid (∀ q, q ∈ G.nx p → q < n) := fun q hq => by rw [← HN.out]; exact GD.out.lt p hpG q hq
        have HND : Hid (G.nx p).Nodup := GD.out.nodup p hpG
        have HLn : Hid ((G.nx p).length ≤ 100) := by
          show _ ≤ _
          have := List.Nodup.length_le_of_subset HND.out (l₂ := List.range n) (fun q hq => List.mem_range.2 (HQ.out q hq))
          rw [List.length_range] at this
          omega
        obtain ⟨ln, hln⟩ : ∃ ln, (G.nx p).length = ln := ⟨_, rfl⟩
        have HLl : Hid ((G.nx p).length = ln) := hln
        have hln60 : ln ≤ 100 := by have := HLn.out; omega
        rw [hln] at c1
        generalize B.xa p = xa at *
        clear hln HLn
        go_wp2_with fail
        clear c1
        go_loopw [42] (fun v wr => ∃ (t : Nat) (rs : List (Value × List Nat)), t ≤ ln ∧ v = .int .i64 t ∧ rs.map (·.2) = (List.range n).map (frL G p t) ∧ Owns k0 wr (boxIt k0 (u0B B n) (u1B B n) (u2B B n) n bw bm :: (23, .slice (some ⟨k0 + 1 + 1, 0, none⟩) n n, rs.map (·.1)) :: (gRows rs ++ [numIt bw n, numIt bm n, wonIt k0 (.slice none 0 0) (.slice none 0 0)])) ∧ w.grownBy wr none) (fun v _ => ln - (intOf v).toNat)
        case atStart => exact ⟨0, rs, by omega, rfl, HRs.out, O.out, GG.out⟩
        case round =>
          clear O GG HRs
          obtain ⟨t, rs, ht, rfl, hrs, ho, hg⟩ := hrel
          have O : Hid (Owns k0 wr (boxIt k0 (u0B B n) (u1B B n) (u2B B n) n bw bm :: (23, .slice (some ⟨k0 + 1 + 1, 0, none⟩) n n, rs.map (·.1)) :: (gRows rs ++ [numIt bw n, numIt bm n, wonIt k0 (.slice none 0 0) (.slice none 0 0)]))) := ho
          have GG : Hid (w.grownBy wr none) := hg
          have HRs : Hid (rs.map (·.2) = (List.range n).map (frL G p t)) := hrs
          have HRl : Hid (rs.length = n) := by have := congrArg List.length hrs; show _ = _; simpa using this
          clear hrs ho hg
          by_cases hlt2 : t < ln
          · have hti : (t : Int) < (ln : Int) := by omega
            have htl : t < (G.nx p).length := by rw [HLl.out]; exact hlt2
            obtain ⟨b5, o5, rfl, hc5⟩ := (HXN.out wr GG.out).at htl
            have h5 := hc5 t htl
            have hyn := HQ.out _ (getD_mem htl)
            have HPut : Hid _ := frL_put HND.out htl
            have HOth : Hid (∀ x, x ≠ (G.nx p).getD t 0 → frL G p (t + 1) x = frL G p t x) := fun x hx => frL_other htl hx
            obtain ⟨y, hy⟩ : ∃ y, (G.nx p).getD t 0 = y := ⟨_, rfl⟩
            rw [hy] at h5 hyn HPut HOth
            have hyi : (y : Int) < (n : Int) := by omega
            obtain ⟨v, xs, hvx⟩ : ∃ v xs, rs.getD y (.slice none 0 0, []) = (v, xs) := ⟨_, _, rfl⟩
            have hry : rs[y]? = some (v, xs) := by rw [← hvx]; simp [List.getD, show y < rs.length by rw [HRl.out]; exact hyn]
            have hxs : xs = frL G p t y := by
              have h1 := congrArg (fun z => z[y]?) HRs.out
              simpa [hry, hyn] using h1
            have hvm : (3, v, nvals xs) ∈ gRows rs := List.mem_map.2 ⟨(v, xs), List.mem_of_getElem? hry, rfl⟩
            obtain ⟨_, av, cv, hav⟩ := O.out.1 _ (List.mem_append_right [_, _] (List.mem_append_left _ hvm))
            simp only [nvals_len] at hav
            subst hav
            have HRs1 : Hid (∀ v' : Value, (rs.set y (v', xs ++ [p])).map (·.2) = (List.range n).map (frL G p (t + 1))) := by
              show ∀ v' : Value, _ = _
              intro v'
              rw [List.map_set, HRs.out]
              apply List.ext_getElem (by simp)
              intro s h1 h2
              simp only [List.getElem_set, List.getElem_map, List.getElem_range]
              by_cases e : y = s
              · subst e; rw [if_pos rfl, HPut.out, hxs]
              · rw [if_neg e, HOth.out s (Ne.symm e)]
            have hxl : xs.length ≤ 101 := by rw [hxs]; have := frL_len G p t y; omega
            have x0 := O.out.cell (i := 5) rfl
            have x1 := (gat_2 O.out).cell (i := y) (u := .slice av xs.length cv) (by rw [List.getElem?_map, hry]; rfl)
            have HSz : Hid (k0 ≤ wr.heap.size) := by show _ ≤ _; rw [← HK0.out]; exact GG.out.size
            have HVX : Hid (rs.getD y (.slice none 0 0, []) = (.slice av xs.length cv, xs)) := hvx
            clear hvx hxs hry hc5 hy
            obtain ⟨i0, hio, hz0, hz1, hz2⟩ := info_parts Try.infoI3
            obtain ⟨W4, hW4⟩ : ∃ W4, (wr.alloc (.cells #[.int .i64 (p : Int)] 3)).drew = W4 := ⟨_, rfl⟩
            have G4w : wr.grownBy W4 none := hW4 ▸ grown_drew (grown_alloc _ _)
            have O4 := O.out.kept G4w
            have hs4 : W4.heap.size = wr.heap.size + 1 := by rw [← hW4]; simp
            have hN4 : ∀ j u, [Value.int .i64 (p : Int)][j]? = some u → W4.cell? ((⟨wr.heap.size, 0, none⟩ : Addr).add j) = some u := fun j u hu => by
              rw [← hW4]; exact cell_one_new wr _ _ j u hu
            have hO4 : W4.ownsRow k0 3 1 (.slice av xs.length cv) xs.length (nvals xs) := by
              have h2 := (O4.1 _ (List.mem_append_right [_, _] (List.mem_append_left _ hvm))).1
              simp only [nvals_len] at h2
              exact h2
            have x0' := fun ob => (grown_alloc wr ob).cell x0 (by simp)
            have x1' := fun ob => (grown_alloc wr ob).cell x1 (by simp)
            obtain ⟨g', cap, w5, hrun, ho5, hg5, hat5, hlt5⟩ := run_append_lies (P := Try.prog) W4 23 23 k0 3 i0 (.int .i64 0) 1 8 Try.underlying23 hio hz0 hz1 hz2 rfl (by decide) (.slice av xs.length cv) xs.length (nvals xs) hO4 ⟨wr.heap.size, 0, none⟩ 1 1 [.int .i64 (p : Int)] rfl hN4 (by intro u hu; simp at hu; subst hu; rfl) (by omega) (by unfold maxLen; omega) (by omega) (by have := HSz.out; omega) (wr.heap.size + 1) hs4
            obtain ⟨p1, p2, p3, p4, p5⟩ := from_push (w0 := w) O4 (by rw [HRl.out]; exact hyn) HRl.out HVX.out rfl ho5 hg5 hat5 hs4 (grown_trans GG.out G4w) (by rw [HK0.out]; exact Nat.le_refl _)
            have p0 : w5.cell? ⟨k0 + 1 + 1 + 1, 5, none⟩ = some (.slice (some ⟨k0 + 1 + 1, 0, none⟩) n n) := p3 _ _ _ _ _ _ rfl rfl
            have O6 : Hid _ := p4
            have G6 : Hid _ := p5
            rw [← hW4, appg_fold] at hrun
            clear hW4 hs4 G4w ho5 hg5 hat5 hlt5 p3 p4 p5 O4 hO4 hN4 hvm
            go_wp2_with fail
            go_region
            all_goals
              go_wp2_with fail
              go_roundw
              case rel => exact ⟨t + 1, _, by omega, by go_num, HRs1.out _, O6.out, G6.out⟩
              case measure => simp [intOf]; omega
          · have hti : ¬ (t : Int) < (ln : Int) := by omega
            have HRs2 : Hid (rs.map (·.2) = (List.range n).map (frL G (p + 1) 0)) := by
              show _ = _
              rw [HRs.out]
              refine List.map_congr_left fun x _ => frL_next (by rw [HLl.out]; omega) x
            go_wp2_with fail
            go_roundw
            case rel => exact ⟨p + 1, rs, by omega, by go_num, HRs2.out, O.out, GG.out⟩
            case measure => simp [intOf]; omega
      · have hpi : ¬ (p : Int) < (n : Int) := by omega
        have hpn : p = n := by omega
        obtain ⟨B', hs', hbw', hbm', hne, hrd, hiw, him, l1, l2, l3, l4⟩ := ready_of (G := G) (w := w) (wr := wr) (B := B) (rs := rs) (n := n) (bw := bw) (bm := bm) HN.out H.out GG.out (by rw [HRs.out, hpn]; refine List.map_congr_left fun x _ => ?_; rw [frL_zero]; simp [frF, HN.out]) (.slice none 0 0) (.slice none 0 0) (by rw [HK0.out]; exact O.out)
        have GB : Hid (∀ W, Turn (WM B') wr W → w.grownBy W none) := fun W hT => ((Turn.of GG.out : Turn (fun _ => False) w wr).trans hT (fun x hx => .inr (by rcases hx with e | e; (rw [e, hbw']; exact l1); (rw [e, hbm']; exact l2)))).grown (fun x hx => hx.elim)
        have WonB : Hid (∀ W, Turn (WM B') wr W → RowB W (k0 + 1) 40 2 2 (fun _ => .slice none 0 0)) := fun W hT => by
          have h1 : Owns k0 wr [wonIt k0 (.slice none 0 0) (.slice none 0 0)] := owns_sub O.out (List.singleton_sublist.2 (by simp))
          have h2 : RowB wr (k0 + 1) 40 2 2 (fun _ => .slice none 0 0) := RowB.of_owns (B := k0) (r := []) (by simpa [List.range_succ] using h1)
          exact h2.turn hT (fun e => by rcases e with e | e; (rw [hbw'] at e; exact l3 (by rw [HK0.out]; exact e)); (rw [hbm'] at e; exact l4 (by rw [HK0.out]; exact e)))
        rw [HK0.out] at hs'
        have HNe : Hid (k0 + 1 ≠ B'.bw ∧ k0 + 1 ≠ B'.bm) := by show _ ∧ _; rw [hbw', hbm', ← HK0.out]; exact ⟨l3, l4⟩
        have S0 : Hid (St G (frF G) B' wr (fun _ => 0) (fun _ => 0)) := ⟨hrd, by rw [hbw', HN.out]; exact hiw, by rw [hbm', HN.out]; exact him, by rw [hbw', hbm']; exact hne⟩
        clear hrd hiw him l1 l2 l3 l4 hne O HRs GG
        subst hbw' hbm'
        obtain ⟨W4, hW4⟩ : ∃ W4, wr.alloc (.cells #[.bool true] 4) = W4 := ⟨_, rfl⟩
        have HW4 : Hid (wr.alloc (.cells #[.bool true] 4) = W4) := hW4
        have r4 : BRow W4 wr.heap.size 1 1 (fun _ => true) := by
          rw [← hW4]
          refine ⟨_, heap_alloc_new _ _, rfl, Nat.le_refl _, fun i hi => ?_⟩
          have : i = 0 := by omega
          subst this
          rfl
        have CR : Hid (Calls Try.prog 30 #[.slice (some ⟨wr.heap.size, 0, none⟩) 1 1, .int .i64 (n : Int)] W4 (SetPost n (fun p => decide (p < n)) W4)) := repeat_any n wr.heap.size W4 r4 hn1 hn
        have g4 : wr.grownBy W4 none := hW4 ▸ grown_alloc _ _
        have S4 : Hid (St G (frF G) B' W4 (fun _ => 0) (fun _ => 0)) := S0.out.grown g4
        have T4 : Hid (Turn (WM B') wr W4) := Turn.of g4
        clear hW4 r4 g4
        go_wp2_with fail
        rw [HW4.out]
        refine CR.out.mono ?_
        rintro E w5 ⟨gp, cp, rfl, hr5, hb5, hg5⟩
        have S5 : Hid (St G (frF G) B' w5 (fun _ => 0) (fun _ => 0)) := S4.out.grown hg5
        have P5 : Hid (SetR B' n w5 gp cp (fun p => decide (p < n))) := by
          have := S4.out.newSet (w' := w5) (g := gp) (c := cp) (o := fun p => decide (p < n)) (by rw [HN.out]; exact hr5) hb5
          rwa [HN.out] at this
        have T5 : Hid (Turn (WM B') wr w5) := T4.out.trans (Turn.of hg5 : Turn (WM B') W4 w5) (fun _ e => .inl e)
        have CS : Hid (Calls Try.prog 29 #[.pointer (some ⟨k0 + 1 + 1 + 1, 0, none⟩), .slice (some ⟨gp, 0, none⟩) n cp] w5 (SolveQ G (frF G) B' (fun p => decide (p < n)) (fun _ => 0) (fun _ => 0) w5)) := by
          have := solve_all (cntL (fun p => decide (p < n)) (List.range G.n) + 1) G (frF G) B' gp cp (fun p => decide (p < n)) (fun _ => 0) (fun _ => 0) w5 GD.out (frF_ok G) (Nat.lt_succ_self _) S5.out (by rw [HN.out]; exact P5.out) (fun p hp => by
            have hp' : p < n := by simpa using hp
            have hpG : p < G.n := by rw [HN.out]; exact hp'
            refine ⟨hpG, ?_⟩
            cases hx : G.nx p with
            | nil => exact absurd hx (GD.out.some p hpG)
            | cons q l => exact ⟨q, by simp, by have := GD.out.lt p hpG q (by rw [hx]; simp); rw [HN.out] at this; simpa using this⟩)
          rwa [HN.out, hs'] at this
        clear CR hr5 hb5 hg5 S4 T4
        go_wp2_with fail
        refine CS.out.mono ?_
        rintro E w6 ⟨Wf, Mf, rfl, hs6, _, hsol, ht6⟩
        have S6 : Hid (St G (frF G) B' w6 Wf Mf) := hs6
        have HSo : Hid (Solved G (fun p => decide (p < n)) Wf Mf) := hsol
        have T6 : Hid (Turn (WM B') wr w6) := T5.out.trans ht6 (fun _ e => .inl e)
        have CD : Hid (Calls Try.prog 31 #[.pointer (some ⟨k0 + 1 + 1 + 1, 0, none⟩)] w6 (StQ G (frF G) B' Wf (dropF G Wf Mf) w6)) := by
          have := dropMoves_any G (frF G) B' Wf Mf w6 S6.out.ready S6.out.won S6.out.mov S6.out.ne (by rw [HN.out]; exact hn)
          rw [hs'] at this
          exact this.mono fun E w' h => S6.out.moveq h
        clear CS hs6 hsol ht6 S5 T5 P5
        go_wp2_with fail
        refine CD.out.mono ?_
        rintro E w7 ⟨rfl, hs7, ht7⟩
        have S7 : Hid (St G (frF G) B' w7 Wf (dropF G Wf Mf)) := hs7
        have T7 : Hid (Turn (WM B') wr w7) := T6.out.trans ht7 (fun _ e => .inl e)
        have y3 := (S7.out.ready.at (grown_refl _ _)).won
        have y4 := (S7.out.ready.at (grown_refl _ _)).move
        rw [hs', HN.out] at y3 y4
        have W7 : Hid (RowB w7 (k0 + 1) 40 2 2 (fun _ => .slice none 0 0)) := WonB.out w7 T7.out
        have z0 := W7.out.cell (i := 0) (by omega)
        have z1 := W7.out.cell (i := 1) (by omega)
        have zf := W7.out.frozen
        obtain ⟨W9, hW9⟩ : ∃ W9, W9 = (w7.setCell ⟨k0 + 1, 0, none⟩ (.slice (some ⟨B'.bw, 0, none⟩) n n)).setCell ⟨k0 + 1, 1, none⟩ (.slice (some ⟨B'.bm, 0, none⟩) n n) := ⟨_, rfl⟩
        have r9 := (W7.out.set (i := 0) (by omega) (.slice (some ⟨B'.bw, 0, none⟩) n n)).set (i := 1) (by omega) (.slice (some ⟨B'.bm, 0, none⟩) n n)
        rw [← hW9] at r9
        have q0 := r9.cell (i := 0) (by omega)
        have q1 := r9.cell (i := 1) (by omega)
        simp at q0 q1
        have Fin : Hid (SolvedPost G w (.returned (.agg #[.slice (some ⟨B'.bw, 0, none⟩) n n, .slice (some ⟨B'.bm, 0, none⟩) n n])) W9) := by
          refine ⟨B'.bw, B'.bm, Wf, Mf, by rw [HN.out], ?_, ?_, by rw [HN.out]; exact HSo.out, ?_⟩
          · rw [hW9]; exact (S7.out.won.other (Ne.symm HNe.out.1) _).other (Ne.symm HNe.out.1) _
          · rw [hW9]; exact (S7.out.mov.other (Ne.symm HNe.out.2) _).other (Ne.symm HNe.out.2) _
          · rw [hW9]
            have g7 := GB.out w7 T7.out
            exact grown_new (grown_new g7 (grown_set _ _ _) (by rw [HK0.out]; show k0 ≤ k0 + 1; omega)) (grown_set _ _ _) (by rw [HK0.out]; show k0 ≤ k0 + 1; omega)
        clear CD hs7 ht7 T6 S6 r9
        go_wp2_with fail
        rw [← hW9]
        exact bodyPost_ret (v := .agg #[.slice (some ⟨B'.bw, 0, none⟩) n n, .slice (some ⟨B'.bm, 0, none⟩) n n]) (by simp [results, Try.results24, go_sem, q0, q1]) rfl (by rw [HPo.out]; exact Fin.out)

end Go.Proofs.Ytnlkdihfoekjmaa
