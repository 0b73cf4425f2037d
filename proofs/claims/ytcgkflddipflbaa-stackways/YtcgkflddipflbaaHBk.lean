/- Where letters come from: rows of rows of rows. -/
/- Where letters come from. -/
import Derived.Test.YtcgkflddipflbaaHCp
namespace Go.Proofs.Ytcgkflddipflbaa
open Go.RowKit
set_option linter.unusedVariables false

/-- An append, under a name that the walk does not open. -/
def AppS (ts : Array TypeId) (ty : TypeId) (args : Array Value) : Sem Value := Builtin.append_ ts ty args
theorem app_fold (ts : Array TypeId) (ty : TypeId) (args : Array Value) : Builtin.append_ ts ty args = AppS ts ty args := rfl

theorem Try.infoSS : (Try.prog.info? 34).map (fun i => (i.zero, i.size, i.bytes)) = some (some (.slice none 0 0), 1, 24) := by kernel_rfl
theorem made_slices (n : Nat) : madeCells (Value.cells (.slice none 0 0)) n = Array.replicate n (Value.slice none 0 0) := by
  apply Array.ext'
  simpa [Value.cells] using toList_madeCells_one (.slice none 0 0) n
theorem make_mid (w : World) (n : Nat) (hn : n ≤ 1000000) : (Instr.makeSlice 34 (.int .i64 (n : Int)) (.int .i64 (n : Int))).run Try.prog w = .ok (.slice (some ⟨w.heap.size, 0, none⟩) n n) (w.alloc (.cells (Array.replicate n (Value.slice none 0 0)) 23)) := by
  obtain ⟨i0, hi, hz0, hz1, hz2⟩ := info_parts Try.infoS
  have hmk := run_make (P := Try.prog) w 34 23 i0 (.slice none 0 0) Try.underlying34 hi hz0 .i64 .i64 (n : Int) (n : Int) (by omega) (by omega) (by rw [hz2]; omega) (by omega)
  rw [hz1, Nat.mul_one, Int.toNat_natCast, made_slices] at hmk
  exact hmk
theorem make_out (w : World) (n : Nat) (hn : n ≤ 1000000) : (Instr.makeSlice 107 (.int .i64 (n : Int)) (.int .i64 (n : Int))).run Try.prog w = .ok (.slice (some ⟨w.heap.size, 0, none⟩) n n) (w.alloc (.cells (Array.replicate n (Value.slice none 0 0)) 34)) := by
  obtain ⟨i0, hi, hz0, hz1, hz2⟩ := info_parts Try.infoSS
  have hmk := run_make (P := Try.prog) w 107 34 i0 (.slice none 0 0) Try.underlying107 hi hz0 .i64 .i64 (n : Int) (n : Int) (by omega) (by omega) (by rw [hz2]; omega) (by omega)
  rw [hz1, Nat.mul_one, Int.toNat_natCast, made_slices] at hmk
  exact hmk

abbrev rowIts (rs : List (Value × List Nat)) : List Item := rs.map fun x => (3, x.1, vals (natInts x.2))
abbrev letIts (q : Value × List (Value × List Nat)) : List Item := (23, q.1, q.2.map (·.1)) :: rowIts q.2
abbrev backIts (v : Value) (os : List Value) (ls : List (Value × List (Value × List Nat))) : List Item := (34, v, os) :: ls.flatMap letIts

/-- A state is put behind, in the row of where it leads to. -/
theorem back_push {B gm n t g' cap H i ln : Nat} {w w' : World} {O : Item} {rs : List (Value × List Nat)} {D : List Item} {v : Value} {xs : List Nat} (h : Owns B w (O :: (23, .slice (some ⟨gm, 0, none⟩) n n, rs.map (·.1)) :: (rowIts rs ++ D))) (ht : t < rs.length) (hn : rs.length = n)
    (hv : rs.getD t (.slice none 0 0, []) = (v, xs)) (hl : xs.length = ln)
    (ho : w'.ownsRow B 3 1 (.slice (some ⟨g', 0, none⟩) (ln + 1) cap) (ln + 1) (vals (natInts xs) ++ [.int .i64 (i : Int)])) (hg : w.grownBy w' v.ownBlock) (hat : v.ownBlock = some g' ∨ g' = H) (hH : w.heap.size = H) :
    w'.cell? ⟨gm, t, none⟩ = some v ∧ w'.frozen? ⟨gm, t, none⟩ = false ∧ (∀ g2 m2 q2 xs2 j u, O = (O.1, .slice (some ⟨g2, 0, none⟩) m2 q2, xs2) → xs2[j]? = some u → w'.cell? ⟨g2, j, none⟩ = some u) ∧
    Owns B (w'.setCell ⟨gm, t, none⟩ (.slice (some ⟨g', 0, none⟩) (ln + 1) cap)) (O :: (23, .slice (some ⟨gm, 0, none⟩) n n, (rs.set t (.slice (some ⟨g', 0, none⟩) (ln + 1) cap, xs ++ [i])).map (·.1)) :: (rowIts (rs.set t (.slice (some ⟨g', 0, none⟩) (ln + 1) cap, xs ++ [i])) ++ D)) ∧
    Keeps B w (w'.setCell ⟨gm, t, none⟩ (.slice (some ⟨g', 0, none⟩) (ln + 1) cap)) ∧ Keeps B w w' := by
  have hrt : rs[t] = (v, xs) := by rw [← hv]; simp [List.getD, ht]
  have e1 : rs = rs.take t ++ (v, xs) :: rs.drop (t + 1) := by rw [← hrt, ← List.drop_eq_getElem_cons ht, List.take_append_drop]
  have e2 : rs.set t (.slice (some ⟨g', 0, none⟩) (ln + 1) cap, xs ++ [i]) = rs.take t ++ (.slice (some ⟨g', 0, none⟩) (ln + 1) cap, xs ++ [i]) :: rs.drop (t + 1) := by
    rw [List.set_eq_take_append_cons_drop, if_pos ht]
  have h1 : Owns B w ((3, v, vals (natInts xs)) :: ((O :: (23, .slice (some ⟨gm, 0, none⟩) n n, rs.map (·.1)) :: rowIts (rs.take t)) ++ (rowIts (rs.drop (t + 1)) ++ D))) := by
    refine at_M ?_
    have h2 := h
    have e3 : rowIts rs = rowIts (rs.take t) ++ (3, v, vals (natInts xs)) :: rowIts (rs.drop (t + 1)) := by
      show rs.map _ = _
      conv => lhs; rw [e1]
      simp [rowIts]
    rw [e3] at h2
    simpa using h2
  have h2 := h1.append (news := [.int .i64 (i : Int)]) ho (by simp [hl]) hg hat hH
  rw [natInts_snoc] at h2
  have h3 := to_M h2
  have h4 : Owns B w' ((23, .slice (some ⟨gm, 0, none⟩) n n, rs.map (·.1)) :: O :: (rowIts (rs.take t) ++ (3, .slice (some ⟨g', 0, none⟩) (ln + 1) cap, vals (natInts (xs ++ [i]))) :: (rowIts (rs.drop (t + 1)) ++ D))) := at_2 h3
  have h5 := h4.set (i := t) (by omega) (.slice (some ⟨g', 0, none⟩) (ln + 1) cap)
  refine ⟨h4.cell ?_, h4.fz t, fun g2 m2 q2 xs2 j u hO hu => ?_, ?_, (Keeps.first h1 hg).trans ((Keeps.refl _ _).set h4.ge.1 _ _), Keeps.first h1 hg⟩
  · simp [ht, hrt]
  · have h6 := to_2 h4
    rw [hO] at h6
    exact h6.cell hu
  · have h6 := to_2 h5
    have e4 : (rs.map (·.1)).set t (.slice (some ⟨g', 0, none⟩) (ln + 1) cap) = (rs.set t (.slice (some ⟨g', 0, none⟩) (ln + 1) cap, xs ++ [i])).map (·.1) := by rw [List.map_set]
    rw [e4] at h6
    have e5 : rowIts (rs.set t (.slice (some ⟨g', 0, none⟩) (ln + 1) cap, xs ++ [i])) = rowIts (rs.take t) ++ (3, .slice (some ⟨g', 0, none⟩) (ln + 1) cap, vals (natInts (xs ++ [i]))) :: rowIts (rs.drop (t + 1)) := by
      show List.map _ _ = _
      rw [e2]
      simp [rowIts]
    rw [e5]
    simpa using h6

def BackPost (δ : Nat → Nat → Nat) (n l : Nat) (w : World) (E : Ending) (w' : World) : Prop :=
  ∃ (g : Nat) (ls : List (Value × List (Value × List Nat))), E = .returned (.slice (some ⟨g, 0, none⟩) l l) ∧ ls.map (fun q => q.2.map (·.2)) = (List.range l).map (fun x => (List.range n).map (backL δ n x)) ∧
    Owns w.heap.size w' (backIts (.slice (some ⟨g, 0, none⟩) l l) (ls.map (·.1)) ls) ∧ w.grownBy w' none

end Go.Proofs.Ytcgkflddipflbaa

namespace Go.Proofs.Ytcgkflddipflbaa
open Go.RowKit
set_option linter.unusedVariables false
attribute [local go_sem ↓] app_fold

set_option maxHeartbeats 1600000 in
set_option maxRecDepth 100000 in
theorem backward_any (L S : Int) (R : List (List Int)) (M : List Int) (a a' : Option Addr) (c c' : Nat) (w : World) (h : DetAt w ⟨L, S, R, M⟩ a a') (hG : Good ⟨L, S, R, M⟩) :
    Calls Try.prog 69 #[.agg #[.int .i64 L, .int .i64 S, .slice a R.length c, .slice a' M.length c']] w (BackPost (Dfa.nx ⟨L, S, R, M⟩) R.length L.toNat w) := by
  have hn1 : 1 ≤ R.length := hG.n1
  have hn3 : R.length ≤ 3000 := hG.n3
  have hL4 : 1 ≤ L ∧ L ≤ 4 := ⟨hG.l1, hG.l4⟩
  obtain ⟨l, hl⟩ : ∃ l : Nat, L = l := ⟨L.toNat, by omega⟩
  subst hl
  simp only [Int.toNat_natCast]
  have H : Hid (DetAt w ⟨l, S, R, M⟩ a a') := h
  have GD : Hid (Good ⟨l, S, R, M⟩) := hG
  have hmo := fun W => make_out W l (by omega)
  have hmm := fun W => make_mid W R.length (by omega)
  obtain ⟨W1, hW1⟩ : ∃ W1, W1 = w.alloc (.cells #[.int .i64 l, .int .i64 S, .slice a R.length c, .slice a' M.length c'] 36) := ⟨_, rfl⟩
  have Box : Hid (∀ W, W1.grownBy W none → w.grownBy W none ∧ W.cell? ⟨w.heap.size, 0, none⟩ = some (.int .i64 l) ∧ W.cell? ⟨w.heap.size, 1, none⟩ = some (.int .i64 S) ∧ W.cell? ⟨w.heap.size, 2, none⟩ = some (.slice a R.length c) ∧ W.cell? ⟨w.heap.size, 3, none⟩ = some (.slice a' M.length c')) := fun W hW => by
    exact ⟨grown_trans (hW1 ▸ grown_alloc _ _) hW, box4 (w := w) (hW1 ▸ hW)⟩
  have HS1 : Hid (W1.heap.size = w.heap.size + 1) := by show _ = _; rw [hW1]; simp
  clear h hG
  go_enter Try.func69, Try.ntmps69
  go_wp2_with fail
  rw [← hW1]
  have O0 : Hid (Owns (w.heap.size + 1) (W1.alloc (.cells (Array.replicate l (Value.slice none 0 0)) 34)) [(34, .slice (some ⟨w.heap.size + 1, 0, none⟩) l l, List.replicate l (.slice none 0 0))]) := by
    show Owns _ _ _
    have o1 := (Owns.no (w.heap.size + 1) W1).made (arr := Array.replicate l (Value.slice none 0 0)) (n := l) (by rw [HS1.out]; exact Nat.le_refl _) 34 (by simp) (by unfold maxLen; omega)
    rw [HS1.out, Array.toList_replicate] at o1
    exact o1
  clear hW1
  obtain ⟨n, hnR⟩ : ∃ n, R.length = n := ⟨_, rfl⟩
  have HRn : Hid (R.length = n) := hnR
  rw [hnR]
  rw [hnR] at hn1 hn3 hmm
  obtain ⟨δ, hδ⟩ : ∃ δ, Dfa.nx ⟨l, S, R, M⟩ = δ := ⟨_, rfl⟩
  have HDl : Hid (Dfa.nx ⟨l, S, R, M⟩ = δ) := hδ
  have HD : Hid (∀ s b, s < n → b < l → δ s b < n) := fun s b hs hb => by
    have := GD.out.nx_lt (s := s) (a := b) (by rw [HRn.out]; exact hs) (by simp; exact hb)
    rwa [HRn.out, HDl.out] at this
  rw [hδ]
  clear hnR hδ
  go_loopw [12] (fun v12 wr => ∃ (b : Nat) (ls : List (Value × List (Value × List Nat))), v12 = .int .i64 b ∧ b ≤ l ∧ ls.map (fun q => q.2.map (·.2)) = (List.range b).map (fun x => (List.range n).map (backL δ n x)) ∧ Owns (w.heap.size + 1) wr (backIts (.slice (some ⟨w.heap.size + 1, 0, none⟩) l l) (ls.map (·.1) ++ List.replicate (l - b) (.slice none 0 0)) ls) ∧ W1.grownBy wr none) (fun v12 _ => l - (intOf v12).toNat)
  case atStart => exact ⟨0, [], rfl, by omega, by simp, by simpa [backIts] using O0.out, grown_alloc _ _⟩
  case round =>
    clear O0
    obtain ⟨b, ls, rfl, hb, hls, ho, hg⟩ := hrel
    have O : Hid (Owns (w.heap.size + 1) wr (backIts (.slice (some ⟨w.heap.size + 1, 0, none⟩) l l) (ls.map (·.1) ++ List.replicate (l - b) (.slice none 0 0)) ls)) := ho
    have G : Hid (W1.grownBy wr none) := hg
    have HLs : Hid (ls.map (fun q => q.2.map (·.2)) = (List.range b).map (fun x => (List.range n).map (backL δ n x))) := hls
    have HLl : Hid (ls.length = b) := by show _ = _; have := congrArg List.length hls; simpa using this
    clear hls ho hg
    obtain ⟨_, b0, b1, b2, b3⟩ := Box.out wr G.out
    by_cases hbl : b < l
    · have hbi : (b : Int) < (l : Int) := by omega
      have b2' := fun ob => (grown_alloc wr ob).cell b2 (by simp)
      obtain ⟨W2, hW2⟩ : ∃ W2, W2 = wr.alloc (.cells (Array.replicate n (Value.slice none 0 0)) 23) := ⟨_, rfl⟩
      have hsz := G.out.size
      rw [HS1.out] at hsz
      have o1 := (O.out.made (arr := Array.replicate n (Value.slice none 0 0)) (n := n) hsz 23 (by simp) (by unfold maxLen; omega))
      rw [Array.toList_replicate, ← hW2] at o1
      have o2 := at_2 o1
      have x0 : W2.cell? ⟨w.heap.size + 1, b, none⟩ = some (.slice none 0 0) := o2.cell (by rw [List.getElem?_append_right (by simp [HLl.out]), List.getElem?_replicate]; simp [HLl.out]; omega)
      have f0 := o2.fz b
      have o3 := o2.set hbl (.slice (some ⟨wr.heap.size, 0, none⟩) n n)
      have e1 : ((ls.map (·.1) ++ List.replicate (l - b) (Value.slice none 0 0)).set b (.slice (some ⟨wr.heap.size, 0, none⟩) n n)) = ls.map (·.1) ++ (.slice (some ⟨wr.heap.size, 0, none⟩) n n) :: List.replicate (l - (b + 1)) (.slice none 0 0) := by
        rw [List.set_append_right _ _ (by simp [HLl.out])]
        congr 1
        have : l - b = (l - (b + 1)) + 1 := by omega
        rw [this, List.replicate_succ]
        simp [HLl.out]
      rw [e1] at o3
      have OA : Hid (Owns (w.heap.size + 1) (W2.setCell ⟨w.heap.size + 1, b, none⟩ (.slice (some ⟨wr.heap.size, 0, none⟩) n n)) ((34, .slice (some ⟨w.heap.size + 1, 0, none⟩) l l, ls.map (·.1) ++ (.slice (some ⟨wr.heap.size, 0, none⟩) n n) :: List.replicate (l - (b + 1)) (.slice none 0 0)) :: (23, .slice (some ⟨wr.heap.size, 0, none⟩) n n, ((List.range n).map fun _ => (Value.slice none 0 0, ([] : List Nat))).map (·.1)) :: (rowIts ((List.range n).map fun _ => (Value.slice none 0 0, ([] : List Nat))) ++ ls.flatMap letIts))) := by
        have e2 : ((List.range n).map fun _ => (Value.slice none 0 0, ([] : List Nat))).map (·.1) = List.replicate n (.slice none 0 0) := by rw [List.eq_replicate_iff]; simp
        have e3 : rowIts ((List.range n).map fun _ => (Value.slice none 0 0, ([] : List Nat))) = List.replicate n (3, Value.slice none 0 0, []) := by rw [List.eq_replicate_iff]; simp [rowIts, vals]
        show Owns _ _ _
        rw [e2, e3]
        have key : ∀ (m : Nat) (W : World) (D : List Item) (x y : Item), Owns (w.heap.size + 1) W (x :: y :: D) → Owns (w.heap.size + 1) W (x :: y :: (List.replicate m (3, Value.slice none 0 0, []) ++ D)) := by
          intro m
          induction m with
          | zero => intro W D x y h; simpa using h
          | succ m ih =>
            intro W D x y h
            rw [List.replicate_succ, List.cons_append]
            exact to_3 ((ih W D x y h).empty 3)
        exact key n _ _ _ _ o3
      have GA : Hid (W1.grownBy (W2.setCell ⟨w.heap.size + 1, b, none⟩ (.slice (some ⟨wr.heap.size, 0, none⟩) n n)) none) := by
        show World.grownBy _ _ _
        exact grown_new (grown_trans G.out (hW2 ▸ grown_alloc _ _)) (grown_set _ _ _) (by rw [HS1.out]; exact Nat.le_refl _)
      clear o1 o2 o3 e1
      have y2 := (Box.out _ GA.out).2.2.2.1
      rw [HRn.out] at b2' b2 y2
      rw [hW2] at x0 f0 OA GA y2
      clear hW2
      go_wp2_with fail
      clear x0 f0 b0 b1 b2 b3 b2' y2
      generalize wr.heap.size = gm at *
      go_loopw [25] (fun v25 wr => ∃ (i : Nat) (rs : List (Value × List Nat)), v25 = .int .i64 i ∧ i ≤ n ∧ rs.map (·.2) = (List.range n).map (backL δ i b) ∧ Owns (w.heap.size + 1) wr ((34, .slice (some ⟨w.heap.size + 1, 0, none⟩) l l, ls.map (·.1) ++ (.slice (some ⟨gm, 0, none⟩) n n) :: List.replicate (l - (b + 1)) (.slice none 0 0)) :: (23, .slice (some ⟨gm, 0, none⟩) n n, rs.map (·.1)) :: (rowIts rs ++ ls.flatMap letIts)) ∧ W1.grownBy wr none) (fun v25 _ => n - (intOf v25).toNat)
      case atStart =>
        refine ⟨0, (List.range n).map fun _ => (Value.slice none 0 0, ([] : List Nat)), rfl, by omega, ?_, OA.out, GA.out⟩
        rw [List.map_map]
        exact List.map_congr_left fun x _ => rfl
      case round =>
        clear OA GA O G
        obtain ⟨i, rs, rfl, hi, hrs, ho, hg⟩ := hrel
        have O : Hid (Owns (w.heap.size + 1) wr ((34, .slice (some ⟨w.heap.size + 1, 0, none⟩) l l, ls.map (·.1) ++ (.slice (some ⟨gm, 0, none⟩) n n) :: List.replicate (l - (b + 1)) (.slice none 0 0)) :: (23, .slice (some ⟨gm, 0, none⟩) n n, rs.map (·.1)) :: (rowIts rs ++ ls.flatMap letIts))) := ho
        have G : Hid (W1.grownBy wr none) := hg
        have HRs : Hid (rs.map (·.2) = (List.range n).map (backL δ i b)) := hrs
        have hrl : rs.length = n := by have := congrArg List.length hrs; simpa using this
        have HRl : Hid (rs.length = n) := hrl
        clear hrs ho hg
        by_cases hin : i < n
        · have hii : (i : Int) < (n : Int) := by omega
          obtain ⟨bR, oR, bx, ox, cx, rfl, hr1w, hr2w⟩ := step_reads (l := b) H.out GD.out (show i < R.length by rw [HRn.out]; exact hin) hbi
          rw [HDl.out] at hr2w
          simp only [Int.toNat_natCast] at hr1w
          have hr1 := (Box.out wr G.out).1.cell hr1w (by simp)
          have hr2 := (Box.out wr G.out).1.cell hr2w (by simp)
          have HR2 : Hid (w.cell? ⟨bx, ox + b, none⟩ = some (.int .i64 ((δ i b : Nat) : Int))) := hr2w
          clear hr1w hr2w
          have htn : δ i b < n := HD.out i b hin hbl
          obtain ⟨v, xs, hvx⟩ : ∃ v xs, rs.getD (δ i b) (.slice none 0 0, []) = (v, xs) := ⟨_, _, rfl⟩
          have hxs : xs = backL δ i b (δ i b) := by
            have h1 := congrArg (fun z => List.getD z (δ i b) []) HRs.out
            simp only [List.getD, List.getElem?_map, List.getElem?_range htn] at h1
            simp only [List.getD] at hvx
            rw [List.getElem?_eq_getElem (by omega)] at h1 hvx
            simp only [Option.map_some, Option.getD_some] at h1 hvx
            rw [hvx] at h1
            exact h1
          have hvm : (3, v, vals (natInts xs)) ∈ rowIts rs := by
            refine List.mem_map.2 ⟨(v, xs), ?_, rfl⟩
            rw [← hvx]; simp [List.getD, show δ i b < rs.length by omega]
          obtain ⟨_, av, cv, hav⟩ := O.out.1 _ (List.mem_append_right [_, _] (List.mem_append_left _ hvm))
          simp only [natInts_len] at hav
          subst hav
          have HRs1 : Hid (∀ v' : Value, (rs.set (δ i b) (v', xs ++ [i])).map (·.2) = (List.range n).map (backL δ (i + 1) b)) := by
            show ∀ v' : Value, _ = _
            intro v'
            rw [List.map_set, HRs.out]
            apply List.ext_getElem (by simp)
            intro s h1 h2
            simp only [List.getElem_set, List.getElem_map, List.getElem_range, backL_snoc]
            by_cases e : δ i b = s
            · subst e; rw [if_pos rfl, if_pos rfl, hxs]
            · rw [if_neg e, if_neg e]
          have hxl : xs.length ≤ i := by
            rw [hxs]
            exact nodup_le i _ (backL_nodup _ _ _ _) (fun t ht => (backL_mem.1 ht).1)
          have x0 := O.out.cell (i := b) (u := .slice (some ⟨gm, 0, none⟩) n n) (by rw [List.getElem?_append_right (by simp [HLl.out])]; simp [HLl.out])
          have x1 := (at_2 O.out).cell (i := δ i b) (u := .slice av xs.length cv) (by
            have : rs[δ i b]? = some (.slice av xs.length cv, xs) := by
              rw [← hvx]; simp [List.getD, show δ i b < rs.length by omega]
            rw [List.getElem?_map, this]; rfl)
          have hO : Hid (∀ ob, (wr.alloc ob).ownsRow (w.heap.size + 1) 3 1 (.slice av xs.length cv) xs.length (vals (natInts xs))) := fun ob => by
            have h2 := ((O.out.kept (grown_alloc wr ob)).1 _ (List.mem_append_right [_, _] (List.mem_append_left _ hvm))).1
            simp only [natInts_len] at h2
            exact h2
          have HSz : Hid (w.heap.size + 1 ≤ wr.heap.size) := by show _ ≤ _; rw [← HS1.out]; exact G.out.size
          have HVX : Hid (rs.getD (δ i b) (.slice none 0 0, []) = (.slice av xs.length cv, xs)) := hvx
          clear hvx hxs hvm hrl
          generalize hy : δ i b = y at *
          clear hy
          have hyi : (y : Int) < (n : Int) := by omega
          obtain ⟨i0, hio, hz0, hz1, hz2⟩ := info_parts Try.info3i
          obtain ⟨W4, hW4⟩ : ∃ W4, (wr.alloc (.cells #[.int .i64 (i : Int)] 3)).drew = W4 := ⟨_, rfl⟩
          have HW : Hid ((wr.alloc (.cells #[.int .i64 (i : Int)] 3)).drew = W4) := hW4
          have G4w : wr.grownBy W4 none := hW4 ▸ grown_drew (grown_alloc _ _)
          have O4 : Hid (Owns (w.heap.size + 1) W4 ((34, .slice (some ⟨w.heap.size + 1, 0, none⟩) l l, ls.map (·.1) ++ (.slice (some ⟨gm, 0, none⟩) n n) :: List.replicate (l - (b + 1)) (.slice none 0 0)) :: (23, .slice (some ⟨gm, 0, none⟩) n n, rs.map (·.1)) :: (rowIts rs ++ ls.flatMap letIts))) := O.out.kept G4w
          have hs4 : W4.heap.size = wr.heap.size + 1 := by rw [← hW4]; simp
          have HS4 : Hid (W4.heap.size = wr.heap.size + 1) := hs4
          have hN4 : Hid (∀ j u, [Value.int .i64 (i : Int)][j]? = some u → W4.cell? ((⟨wr.heap.size, 0, none⟩ : Addr).add j) = some u) := fun j u hu => by
            rw [← hW4]; exact cell_one_new wr _ _ j u hu
          have hO4 : Hid (W4.ownsRow (w.heap.size + 1) 3 1 (.slice av xs.length cv) xs.length (vals (natInts xs))) := by
            have h2 := hO.out (.cells #[.int .i64 (i : Int)] 3)
            show World.ownsRow _ _ _ _ _ _ _
            have hd : (wr.alloc (.cells #[.int .i64 (i : Int)] 3)).grownBy W4 none := hW4 ▸ grown_drew (grown_refl _ _)
            exact h2.kept hd (by cases av <;> simp [Value.ownBlock])
          have G4 : Hid (W1.grownBy W4 none) := grown_trans G.out G4w
          have x0' := fun ob => (grown_alloc wr ob).cell x0 (by simp)
          have x1' := fun ob => (grown_alloc wr ob).cell x1 (by simp)
          have hr1' := fun ob => (grown_alloc wr ob).cell hr1 (by simp)
          have hr2' := fun ob => (grown_alloc wr ob).cell hr2 (by simp)
          obtain ⟨g', cap, w5, hrun, ho5, hg5, hat5, hlt5⟩ := run_append_lies (P := Try.prog) W4 23 23 (w.heap.size + 1) 3 i0 (.int .i64 0) 1 8 Try.underlying23 hio hz0 hz1 hz2 rfl (by decide) (.slice av xs.length cv) xs.length (vals (natInts xs)) hO4.out ⟨wr.heap.size, 0, none⟩ 1 1 [.int .i64 (i : Int)] rfl hN4.out (by intro u hu; simp at hu; subst hu; rfl) (by omega) (by unfold maxLen; omega) (by omega) (by have := HS4.out; have := HSz.out; omega) (wr.heap.size + 1) HS4.out
          obtain ⟨p1, p2, p3, p4, p5, p6⟩ := back_push O4.out (by rw [HRl.out]; exact htn) HRl.out HVX.out rfl ho5 hg5 hat5 HS4.out
          have p0 : w5.cell? ⟨w.heap.size + 1, b, none⟩ = some (.slice (some ⟨gm, 0, none⟩) n n) := (p3 _ _ _ _ _ _ rfl (by rw [List.getElem?_append_right (by simp [HLl.out])]; simp [HLl.out]))
          have p7 : w5.cell? ⟨bx, ox + b, none⟩ = some (.int .i64 (y : Int)) := ((p6 w (by omega) (Box.out W4 G4.out).1).cell HR2.out (by simp))
          have O6 : Hid _ := p4
          have G6 : Hid _ := p5 W1 (by rw [HS1.out]; exact Nat.le_refl _) G4.out
          rw [← hW4, app_fold] at hrun
          clear hW4 hs4 G4w hO ho5 hg5 hat5 hlt5 p3 p4 p5 p6 O4 hO4 hN4 HS4 G4 HW
          go_wp2_with fail
          go_region
          all_goals
            go_wp2_with fail
            go_roundw
            case rel => exact ⟨i + 1, _, by go_num, by omega, HRs1.out _, O6.out, G6.out⟩
            case measure => simp [intOf]; omega
        · have hii : ¬ (i : Int) < (n : Int) := by omega
          have hin2 : n = i := by omega
          subst hin2
          have HLs1 : Hid ((ls ++ [(Value.slice (some ⟨gm, 0, none⟩) n n, rs)]).map (fun q => q.2.map (·.2)) = (List.range (b + 1)).map (fun x => (List.range n).map (backL δ n x))) := by
            show _ = _
            rw [List.map_append, HLs.out, List.range_succ, List.map_append]
            simp [HRs.out]
          have O7 : Hid (Owns (w.heap.size + 1) wr (backIts (.slice (some ⟨w.heap.size + 1, 0, none⟩) l l) ((ls ++ [(Value.slice (some ⟨gm, 0, none⟩) n n, rs)]).map (·.1) ++ List.replicate (l - (b + 1)) (.slice none 0 0)) (ls ++ [(Value.slice (some ⟨gm, 0, none⟩) n n, rs)]))) := by
            show Owns _ _ _
            have h1 := O.out
            have e1 : (ls ++ [(Value.slice (some ⟨gm, 0, none⟩) n n, rs)]).map (·.1) ++ List.replicate (l - (b + 1)) (Value.slice none 0 0) = ls.map (·.1) ++ (.slice (some ⟨gm, 0, none⟩) n n) :: List.replicate (l - (b + 1)) (.slice none 0 0) := by simp
            rw [e1]
            refine h1.perm (List.Perm.cons _ ?_)
            rw [List.flatMap_append]
            have e2 : List.flatMap letIts [(Value.slice (some ⟨gm, 0, none⟩) n n, rs)] = letIts (Value.slice (some ⟨gm, 0, none⟩) n n, rs) := by simp
            rw [e2]
            exact List.perm_append_comm (l₁ := letIts (Value.slice (some ⟨gm, 0, none⟩) n n, rs))
          go_wp2_with fail
          go_roundw
          case rel => exact ⟨b + 1, _, by go_num, by omega, HLs1.out, O7.out, G.out⟩
          case measure => simp [intOf]; omega
    · have hbi : ¬ (b : Int) < (l : Int) := by omega
      have hbe : l = b := by omega
      subst hbe
      have O7 : Hid (Owns (w.heap.size + 1) wr (backIts (.slice (some ⟨w.heap.size + 1, 0, none⟩) l l) (ls.map (·.1)) ls)) := by
        show Owns _ _ _
        have h1 := O.out
        rw [Nat.sub_self, List.replicate_zero, List.append_nil] at h1
        exact h1
      have Gw : Hid (w.grownBy wr none) := (Box.out wr G.out).1
      clear O b0 b1 b2 b3
      go_wp2_with fail
      go_ret
      exact ⟨_, ls, rfl, by rw [HDl.out, HRn.out]; exact HLs.out, O7.out.base (by omega), Gw.out⟩

end Go.Proofs.Ytcgkflddipflbaa
