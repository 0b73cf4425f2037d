/- Numbers of classes, as they are come to. (Parted from RLeast.) -/
/- The reference's Classes: states that no word tells apart have one number. -/
import Derived.Test.YtcgkflddipflbaaLMath
import Derived.Test.YtcgkflddipflbaaLOfs
import Derived.Test.YtcgkflddipflbaaLOwn
import Derived.Test.YtcgkflddipflbaaRClsD
namespace Go.Proofs.Ytcgkflddipflbaa
open Go.RowKit
set_option linter.unusedVariables false

/-- The numbers of all. -/
abbrev ivals (n : Nat) (f : Nat → Int) : List Value := vals ((List.range n).map f)
theorem ivals_get {n s : Nat} {f : Nat → Int} (h : s < n) : (ivals n f)[s]? = some (.int .i64 (f s)) := by simp [ivals, vals, h]
theorem ivals_len (n : Nat) (f : Nat → Int) : (ivals n f).length = n := by simp [ivals, vals]
theorem ivals_set {n i : Nat} {f g : Nat → Int} {x : Int} (hi : i < n) (h1 : g i = x) (h2 : ∀ j, j < n → j ≠ i → g j = f j) : (ivals n f).set i (.int .i64 x) = ivals n g := by
  apply List.ext_getElem (by simp [ivals])
  intro j h3 h4
  have hj : j < n := by simpa [ivals] using h4
  rw [List.getElem_set]
  simp only [ivals, vals, List.getElem_map, List.getElem_range]
  by_cases e : i = j
  · subst e; rw [if_pos rfl, h1]
  · rw [if_neg e, h2 j hj (Ne.symm e)]
theorem ivals_congr {n : Nat} {f g : Nat → Int} (h : ∀ i, i < n → f i = g i) : ivals n f = ivals n g := by
  simp only [ivals]
  rw [List.map_congr_left (fun i hi => h i (List.mem_range.1 hi))]

/-- Which number a class has: -1 if none. -/
def numC (g : Nat → Nat) (xs : List Nat) (c : Nat) : Int := match xs.findIdx? (fun x => g x == c) with | some i => (i : Int) | none => -1
theorem numC_none {g : Nat → Nat} {xs : List Nat} {q : Nat} (h : ¬ hasK g xs q) : numC g xs (g q) = -1 := by
  unfold numC
  rw [List.findIdx?_eq_none_iff.2 (fun x hx => by simp; exact fun e => h ⟨x, hx, e⟩)]
theorem numC_has {g : Nat → Nat} {xs : List Nat} {q : Nat} (h : hasK g xs q) : numC g xs (g q) = (ix g xs q : Nat) := by
  induction xs with
  | nil => obtain ⟨r, hr, _⟩ := h; simp at hr
  | cons x xs ih =>
    unfold numC
    simp only [List.findIdx?_cons, ix]
    by_cases e : g x = g q
    · simp [e]
    · have h2 : hasK g xs q := by
        obtain ⟨r, hr, e2⟩ := h
        rcases List.mem_cons.1 hr with rfl | hr
        · exact absurd e2 e
        · exact ⟨r, hr, e2⟩
      have h3 := ih h2
      unfold numC at h3
      rw [if_neg e]
      simp only [beq_iff_eq, e, if_false]
      cases hf : List.findIdx? (fun x => g x == g q) xs with
      | none => rw [hf] at h3; simp at h3
      | some i => rw [hf] at h3; simp at h3 ⊢; omega
theorem numC_snoc {g : Nat → Nat} {xs : List Nat} {q c : Nat} (h : ¬ hasK g xs q) : numC g (xs ++ [q]) c = if c = g q then (xs.length : Int) else numC g xs c := by
  unfold numC
  rw [List.findIdx?_append]
  by_cases e : c = g q
  · subst e
    rw [if_pos rfl, List.findIdx?_eq_none_iff.2 (fun x hx => by simp; exact fun e => h ⟨x, hx, e⟩)]
    simp [List.findIdx?_cons]
  · rw [if_neg e]
    have : List.findIdx? (fun x => g x == c) [q] = none := by simp [List.findIdx?_cons, Ne.symm e]
    rw [this]
    cases List.findIdx? (fun x => g x == c) xs <;> simp

end Go.Proofs.Ytcgkflddipflbaa

namespace Go.Proofs.Ytcgkflddipflbaa
open Go.RowKit
set_option linter.unusedVariables false

def ClassesPost (δ : Nat → Nat → Nat) (m : Nat → Bool) (n l : Nat) (w : World) (e : Ending) (w' : World) : Prop :=
  ∃ (a : Option Addr) (c : Nat) (g : Nat → Nat), e = .returned (.slice a n c) ∧ Owns w.heap.size w' [(3, .slice a n c, fvals n g)] ∧ (∀ p q, p < n → q < n → (g p = g q ↔ Ner δ m l p q)) ∧ (∀ s, s < n → g s < n) ∧ w.grownBy w' none

/-- What the letters so far say of two states. -/
def eqTo (f : Nat → Nat) (δ : Nat → Nat → Nat) (p q a : Nat) : Bool := decide (f p = f q) && (List.range a).all fun b => decide (f (δ p b) = f (δ q b))
theorem eqTo_step {f : Nat → Nat} {δ : Nat → Nat → Nat} {p q a : Nat} (h : eqTo f δ p q a = true) : eqTo f δ p q (a + 1) = decide (f (δ p a) = f (δ q a)) := by
  simp only [eqTo, Bool.and_eq_true] at h
  simp only [eqTo, List.range_succ, List.all_append, h.1, h.2]
  simp
theorem eqTo_false {f : Nat → Nat} {δ : Nat → Nat → Nat} {p q a l : Nat} (h : eqTo f δ p q a = false) (ha : a ≤ l) : eqF f δ l p q = false := by
  cases hb : eqF f δ l p q with
  | false => rfl
  | true =>
    have h1 := (eqF_iff f δ l p q).1 hb
    have h2 : eqTo f δ p q a = true := by simp only [eqTo, Bool.and_eq_true, decide_eq_true_eq, List.all_eq_true, List.mem_range]; exact ⟨h1.1, fun b hb => h1.2 b (by omega)⟩
    rw [h] at h2; cases h2

set_option maxHeartbeats 6400000 in
set_option maxRecDepth 100000 in
theorem classesR_any (L S : Int) (R : List (List Int)) (M : List Int) (a a' : Option Addr) (c c' : Nat) (w : World) (h : DetAt w ⟨L, S, R, M⟩ a a') (hG : Good ⟨L, S, R, M⟩) :
    Calls Try.prog 23 #[.agg #[.int .i64 L, .int .i64 S, .slice a R.length c, .slice a' M.length c']] w (ClassesPost (Dfa.nx ⟨L, S, R, M⟩) (Dfa.mk1 ⟨L, S, R, M⟩) R.length L.toNat w) := by
  have hn1 : 1 ≤ R.length := hG.n1
  have hn3 : R.length ≤ 3000 := hG.n3
  have hL4 : 1 ≤ L ∧ L ≤ 4 := ⟨hG.l1, hG.l4⟩
  have HML : Hid (M.length = R.length) := hG.ml
  have H : Hid (DetAt w ⟨L, S, R, M⟩ a a') := h
  have GD : Hid (Good ⟨L, S, R, M⟩) := hG
  have HD : Hid (∀ s b, s < R.length → b < L.toNat → Dfa.nx ⟨L, S, R, M⟩ s b < R.length) := fun s b hs hb => hG.nx_lt hs hb
  obtain ⟨bm, om, ham, hcm⟩ := h.marks.at (k := 0) (by have := hG.ml; simp only at this ⊢; omega)
  simp only at ham hcm
  subst ham
  have HMk : Hid (vals M = fvals R.length fun s => if Dfa.mk1 ⟨L, S, R, M⟩ s = true then 1 else 0) := by
    show _ = _
    apply List.ext_getElem (by simp [vals, fvals, HML.out])
    intro i h1 h2
    have hi : i < M.length := by simpa [vals] using h1
    have hmi := hG.m i hi
    simp only at hmi
    have e1 : M.getD i 0 = M[i] := by simp [List.getD, hi]
    rw [e1] at hmi
    simp only [vals, fvals, natInts, List.getElem_map, List.getElem_range, Dfa.mk1, e1]
    rcases hmi with h0 | h0 <;> simp [h0]
  generalize Dfa.mk1 ⟨L, S, R, M⟩ = mk at HMk ⊢
  obtain ⟨W1, hW1⟩ : ∃ W1, W1 = w.alloc (.cells #[.int .i64 L, .int .i64 S, .slice a R.length c, .slice (some ⟨bm, om, none⟩) M.length c'] 36) := ⟨_, rfl⟩
  have Box : Hid (∀ W, W1.grownBy W none → w.grownBy W none ∧ W.cell? ⟨w.heap.size, 0, none⟩ = some (.int .i64 L) ∧ W.cell? ⟨w.heap.size, 1, none⟩ = some (.int .i64 S) ∧ W.cell? ⟨w.heap.size, 2, none⟩ = some (.slice a R.length c) ∧ W.cell? ⟨w.heap.size, 3, none⟩ = some (.slice (some ⟨bm, om, none⟩) M.length c')) := fun W hW => by
    exact ⟨grown_trans (hW1 ▸ grown_alloc _ _) hW, box4 (w := w) (hW1 ▸ hW)⟩
  have hs1 : W1.heap.size = w.heap.size + 1 := by rw [hW1]; simp
  obtain ⟨i0, hi, hz0, hz1, hz2⟩ := info_parts Try.info3i
  have O1 : Hid (Owns (w.heap.size + 1) (W1.alloc (.cells #[] 3)) [(3, .slice (some ⟨w.heap.size + 1, 0, none⟩) 0 0, [])]) := by
    have := (Owns.no (w.heap.size + 1) W1).made (arr := #[]) (n := 0) (by omega) 3 rfl (by unfold maxLen; omega)
    rw [hs1] at this
    exact this
  have hO1 : (W1.alloc (.cells #[] 3)).ownsRow (w.heap.size + 1) 3 1 (.slice (some ⟨w.heap.size + 1, 0, none⟩) 0 0) 0 [] := O1.out.row
  have G1 : Hid (w.grownBy (W1.alloc (.cells #[] 3)) none) := grown_trans (Box.out W1 (grown_refl _ _)).1 (grown_alloc _ _)
  have HNews : Hid (∀ j u, (vals M)[j]? = some u → (W1.alloc (.cells #[] 3)).cell? ((⟨bm, om, none⟩ : Addr).add j) = some u) := fun j u hu => by
    have hj : j < M.length := by have := (List.getElem?_eq_some_iff.1 hu).1; rwa [vals_len] at this
    rw [vals_get hj] at hu
    rw [add_off]
    exact G1.out.cell ((hcm j hj).trans hu) (by simp)
  have hMl : M.length = R.length := HML.out
  have hMl' : 0 < M.length ∧ M.length ≤ 3000 := by omega
  have hb3' : ∀ o, (W1.alloc o).cell? ⟨w.heap.size, 3, none⟩ = some (.slice (some ⟨bm, om, none⟩) M.length c') := fun o => (grown_alloc W1 o).cell (Box.out W1 (grown_refl _ _)).2.2.2.2 (by simp)
  clear h hG hcm hMl
  rw [hW1] at hO1 hb3'
  go_enter Try.func23, Try.ntmps23
  go_wp2_with (at_builtin; refine wpList_append_lies _ rfl (.tmp 13) (.tmp 15) 23 rfl (w.heap.size + 1) 3 i0 (.int .i64 0) 1 8 Try.underlying23 hi hz0 hz1 hz2 rfl (by decide) (.slice (some ⟨w.heap.size + 1, 0, none⟩) 0 0) 0 [] rfl hO1 ⟨bm, om, none⟩ M.length c' (vals M) rfl (by rw [vals_len]; omega) (by rw [← hW1]; exact HNews.out) (by intro u hu; simp at hu; obtain ⟨x, _, rfl⟩ := hu; rfl) (by omega) (by unfold maxLen; omega) (by omega) (by simp) (w.heap.size + 1 + 1) (by simp) ?_; intro g cap w3 ho3 hg3 hat3 _)
  have O3 : Hid (Owns (w.heap.size + 1) w3 [(3, .slice (some ⟨g, 0, none⟩) R.length cap, fvals R.length fun s => if mk s = true then 1 else 0)]) := by
    have h1 := O1.out.append (g := g) (n := M.length) (cap := cap) (news := vals M) (H := w.heap.size + 1 + 1) (by simpa [← hW1] using ho3) (by simp) (by rw [← hW1] at hg3; exact hg3) hat3 (by rw [World.size_alloc, hs1])
    rw [List.nil_append, HMk.out, HML.out] at h1
    exact h1
  have G3 : Hid (W1.grownBy w3 none) := by
    rw [← hW1] at hg3
    exact Owns.frame (w0 := W1) O1.out (by omega) (grown_alloc _ _) hg3
  have HS1 : Hid (W1.heap.size = w.heap.size + 1) := hs1
  clear ho3 hg3 hat3 hO1 hb3' HNews hW1 hs1 O1 G1
  obtain ⟨l, hl⟩ : ∃ l : Nat, L = l := ⟨L.toNat, by omega⟩
  subst hl
  simp only [Int.toNat_natCast]
  simp only [Int.toNat_natCast] at HD
  obtain ⟨δ, hδ⟩ : ∃ δ, Dfa.nx ⟨l, S, R, M⟩ = δ := ⟨_, rfl⟩
  rw [hδ]
  have HDl : Hid (Dfa.nx ⟨l, S, R, M⟩ = δ) := hδ
  rw [hδ] at HD
  clear hδ
  obtain ⟨n, hn⟩ : ∃ n, R.length = n := ⟨_, rfl⟩
  have HRn : Hid (R.length = n) := hn
  rw [hn]
  rw [hn] at HD O3 hn1 hn3
  clear hn
  go_loopw [3, 4] (fun v i wr => ∃ (cnt : Nat) (f : Nat → Nat) (a3 : Option Addr) (c3 : Nat), v = .slice a3 n c3 ∧ i = .int .i64 cnt ∧ cnt ≤ n ∧ Moore δ mk n l f cnt ∧ (∀ s, s < n → f s < 3001) ∧ Owns (w.heap.size + 1) wr [(3, .slice a3 n c3, fvals n f)] ∧ W1.grownBy wr none) (fun _ i _ => n - (intOf i).toNat)
  case atStart =>
    refine ⟨0, _, some ⟨g, 0, none⟩, cap, ?_, rfl, by omega, Moore.start δ mk n l, fun s _ => by split <;> omega, O3.out, G3.out⟩
    rw [← HRn.out, ← HML.out]
  case round =>
    clear O3 G3
    obtain ⟨cnt, f, a3, c3, rfl, rfl, hcnt, hM, hf, ho, hg⟩ := hrel
    have MO : Hid (Moore δ mk n l f cnt) := hM
    have HF : Hid (∀ s, s < n → f s < 3001) := hf
    have G : Hid (W1.grownBy wr none) := hg
    have hsz : w.heap.size + 1 ≤ wr.heap.size := by rw [← HS1.out]; exact hg.size
    have hmk := make_ints wr n (by omega)
    obtain ⟨W5, hW5⟩ : ∃ W5, W5 = wr.alloc (.cells (Array.replicate n (Value.int .i64 0)) 3) := ⟨_, rfl⟩
    have O5 : Hid (Owns (w.heap.size + 1) W5 [(3, .slice (some ⟨wr.heap.size, 0, none⟩) n n, fvals n fun s => if s < 0 then clE (eqF f δ l) n s else 0), (3, .slice none 0 0, vals (natInts (fsE (eqF f δ l) 0))), (3, .slice a3 n c3, fvals n f)]) := by
      have h1 := (ho.empty 3).made (arr := Array.replicate n (Value.int .i64 0)) (n := n) hsz 3 (by simp) (by unfold maxLen; omega)
      rw [← hW5] at h1
      have e : (Array.replicate n (Value.int .i64 0)).toList = fvals n fun s => if s < 0 then clE (eqF f δ l) n s else 0 := by
        apply List.ext_getElem (by simp [fvals])
        intro i h1 h2
        simp [fvals]
      rw [e] at h1
      exact h1
    have G5 : Hid (W1.grownBy W5 none) := by rw [hW5]; exact grown_trans hg (grown_alloc _ _)
    rw [← hW5] at hmk
    clear ho hg hM hf hW5
    go_wp2_with fail
    clear hmk
    generalize wr.heap.size = gn at *
    go_loopw [6, 7, 8] (fun v6 v7 v8 wr => ∃ (q : Nat) (a7 : Option Addr) (c7 : Nat), v8 = .int .i64 q ∧ v6 = .int .i64 ((fsE (eqF f δ l) q).length : Nat) ∧ v7 = .slice a7 (fsE (eqF f δ l) q).length c7 ∧ q ≤ n ∧ Owns (w.heap.size + 1) wr [(3, .slice (some ⟨gn, 0, none⟩) n n, fvals n fun s => if s < q then clE (eqF f δ l) n s else 0), (3, .slice a7 (fsE (eqF f δ l) q).length c7, vals (natInts (fsE (eqF f δ l) q))), (3, .slice a3 n c3, fvals n f)] ∧ W1.grownBy wr none) (fun _ _ v8 _ => n - (intOf v8).toNat)
    case atStart => exact ⟨0, none, 0, rfl, rfl, rfl, by omega, O5.out, G5.out⟩
    case round =>
      clear O5 G5
      obtain ⟨q, a7, c7, rfl, rfl, rfl, hq, ho, hg⟩ := hrel
      have O : Hid (Owns (w.heap.size + 1) wr [(3, .slice (some ⟨gn, 0, none⟩) n n, fvals n fun s => if s < q then clE (eqF f δ l) n s else 0), (3, .slice a7 (fsE (eqF f δ l) q).length c7, vals (natInts (fsE (eqF f δ l) q))), (3, .slice a3 n c3, fvals n f)]) := ho
      have G : Hid (W1.grownBy wr none) := hg
      have hfl := fsE_len (eqF f δ l) q
      have hflt := fsE_lt (eqF f δ l) q
      clear ho hg
      obtain ⟨fs, hfs⟩ : ∃ fs, fsE (eqF f δ l) q = fs := ⟨_, rfl⟩
      have HFS : Hid (fsE (eqF f δ l) q = fs) := hfs
      rw [hfs] at O hfl hflt
      rw [hfs]
      have HFlt : Hid (∀ r, r ∈ fs → r < q) := hflt
      clear hfs hflt
      by_cases hqn : q < n
      · have hqi : (q : Int) < (n : Int) := by omega
        go_wp2_with fail
        go_loopw [9] (fun v9 wr => ∃ (k : Nat), v9 = .int .i64 k ∧ k ≤ fs.length ∧ (∀ j, j < k → eqF f δ l (fs.getD j 0) q = false) ∧ Owns (w.heap.size + 1) wr [(3, .slice (some ⟨gn, 0, none⟩) n n, fvals n fun s => if s < q then clE (eqF f δ l) n s else 0), (3, .slice a7 fs.length c7, vals (natInts fs)), (3, .slice a3 n c3, fvals n f)] ∧ W1.grownBy wr none) (fun v9 _ => fs.length - (intOf v9).toNat)
        case atStart => exact ⟨0, rfl, by omega, fun j hj => by omega, O.out, G.out⟩
        case round =>
          clear O G
          obtain ⟨k, rfl, hk, hne, ho, hg⟩ := hrel
          have O : Hid (Owns (w.heap.size + 1) wr [(3, .slice (some ⟨gn, 0, none⟩) n n, fvals n fun s => if s < q then clE (eqF f δ l) n s else 0), (3, .slice a7 fs.length c7, vals (natInts fs)), (3, .slice a3 n c3, fvals n f)]) := ho
          have G : Hid (W1.grownBy wr none) := hg
          have HNe : Hid (∀ j, j < k → eqF f δ l (fs.getD j 0) q = false) := hne
          clear ho hg hne
          by_cases hkl : k < fs.length
          · have hki : (k : Int) < (fs.length : Int) := by omega
            have hp : fs.getD k 0 < q := HFlt.out _ (getD_mem hkl)
            obtain ⟨g7, c7', e7, _⟩ := (own_2 O.out).form (by simp; omega)
            have e7a : a7 = some ⟨g7, 0, none⟩ := by simp only [Value.slice.injEq] at e7; exact e7.1
            subst e7a
            have cF := (own_2 O.out).cell (natInts_get hkl)
            obtain ⟨g3, c3', e3, _⟩ := (own_3 O.out).form (by rw [fvals_len]; omega)
            have e3a : a3 = some ⟨g3, 0, none⟩ := by simp only [Value.slice.injEq] at e3; exact e3.1
            subst e3a
            clear e7 e3
            obtain ⟨p, hpp⟩ : ∃ p, fs.getD k 0 = p := ⟨_, rfl⟩
            have HP : Hid (fs.getD k 0 = p) := hpp
            rw [hpp] at hp cF
            clear hpp
            have hpn : p < n := by omega
            have hpi : (p : Int) < (n : Int) := by omega
            have cp := (own_3 O.out).cell (fvals_get (f := f) hpn)
            have cq := (own_3 O.out).cell (fvals_get (f := f) hqn)
            have hbeq : ((f p : Int) == (f q : Int)) = decide (f p = f q) := by rw [Bool.eq_iff_iff]; simp; omega
            go_wp2_with fail
            go_quiet (fail)
            go_wp2_with fail
            clear cp cq cF
            go_loopw [11, 12] (fun v11 v12 wr => ∃ (b : Nat), v12 = .int .i64 b ∧ v11 = .bool (eqTo f δ p q b) ∧ b ≤ l ∧ Owns (w.heap.size + 1) wr [(3, .slice (some ⟨gn, 0, none⟩) n n, fvals n fun s => if s < q then clE (eqF f δ l) n s else 0), (3, .slice (some ⟨g7, 0, none⟩) fs.length c7, vals (natInts fs)), (3, .slice (some ⟨g3, 0, none⟩) n c3, fvals n f)] ∧ W1.grownBy wr none) (fun _ v12 _ => l - (intOf v12).toNat)
            case atStart => exact ⟨0, rfl, by simp [eqTo], by omega, O.out.kept (grown_drewN (grown_refl _ _) _), grown_drewN G.out _⟩
            case round =>
              clear O G
              obtain ⟨b, rfl, rfl, hb, ho, hg⟩ := hrel
              have O : Hid (Owns (w.heap.size + 1) wr [(3, .slice (some ⟨gn, 0, none⟩) n n, fvals n fun s => if s < q then clE (eqF f δ l) n s else 0), (3, .slice (some ⟨g7, 0, none⟩) fs.length c7, vals (natInts fs)), (3, .slice (some ⟨g3, 0, none⟩) n c3, fvals n f)]) := ho
              have G : Hid (W1.grownBy wr none) := hg
              obtain ⟨hgw, b0, b1, b2, b3⟩ := Box.out wr hg
              clear ho hg
              cases hsm : eqTo f δ p q b with
              | true =>
                have HSm : Hid (eqTo f δ p q b = true) := hsm
                clear hsm
                by_cases hbl : b < l
                · have hbi : (b : Int) < (l : Int) := by omega
                  obtain ⟨bR, oR, bx, ox, cx, rfl, hr1, hr2⟩ := step_reads (l := b) (H.out.grown hgw) GD.out (show p < R.length by rw [HRn.out]; exact hpn) hbi
                  obtain ⟨bR', oR', bY, oY, cY, eR, hr3, hr4⟩ := step_reads (l := b) (H.out.grown hgw) GD.out (show q < R.length by rw [HRn.out]; exact hqn) hbi
                  simp only [Option.some.injEq, Addr.mk.injEq, and_true] at eR
                  obtain ⟨rfl, rfl⟩ := eR
                  rw [HDl.out] at hr2 hr4
                  simp only [Int.toNat_natCast] at hr1 hr3
                  have hdp := HD.out p b hpn hbl
                  have hdq := HD.out q b hqn hbl
                  have cp := (own_3 O.out).cell (fvals_get (f := f) hdp)
                  have cq := (own_3 O.out).cell (fvals_get (f := f) hdq)
                  have HSt : Hid (((f (δ p b) : Int) == (f (δ q b) : Int)) = eqTo f δ p q (b + 1)) := by
                    show _ = _
                    rw [eqTo_step HSm.out, Bool.eq_iff_iff]; simp; omega
                  have hpR : (p : Int) < (R.length : Int) := by rw [HRn.out]; omega
                  have hqR : (q : Int) < (R.length : Int) := by rw [HRn.out]; omega
                  generalize f (δ p b) = fp at *
                  generalize f (δ q b) = fq at *
                  generalize δ p b = dp at *
                  generalize δ q b = dq at *
                  have hdpi : (dp : Int) < (n : Int) := by omega
                  have hdqi : (dq : Int) < (n : Int) := by omega
                  clear hgw
                  go_wp2_with fail
                  go_quiet (fail)
                  go_wp2_with fail
                  go_roundw
                  case rel => exact ⟨b + 1, by go_num, by rw [HSt.out], by omega, O.out.kept (grown_drewN (grown_refl _ _) _), grown_drewN G.out _⟩
                  case measure => simp [intOf]; omega
                · have hbe : b = l := by omega
                  have hbi : ¬ (b : Int) < (l : Int) := by omega
                  have HEq : Hid (eqF f δ l p q = true) := by show _ = _; rw [← hbe]; exact HSm.out
                  have HIx : Hid (ixE (eqF f δ l) fs q = k) := ixE_eq hk HNe.out (fun _ => by rw [HP.out]; exact HEq.out)
                  have HAny : Hid (anyE (eqF f δ l) fs q) := ⟨p, by rw [← HP.out]; exact getD_mem hkl, HEq.out⟩
                  have HFs1 : Hid (fsE (eqF f δ l) (q + 1) = fs) := by show _ = _; rw [fsE_old (HFS.out ▸ HAny.out)]; exact HFS.out
                  have HCl : Hid (k = clE (eqF f δ l) n q) := by
                    show _ = _
                    rw [← clE_at (eqF_refl f δ l) hqn, HFs1.out, HIx.out]
                  have cN := O.out.cell (fvals_get (f := fun s => if s < q then clE (eqF f δ l) n s else 0) hqn)
                  have fN := O.out.fz q
                  have O9 : Hid (Owns (w.heap.size + 1) (wr.setCell ⟨gn, q, none⟩ (.int .i64 (k : Int))) [(3, .slice (some ⟨gn, 0, none⟩) n n, fvals n fun s => if s < q + 1 then clE (eqF f δ l) n s else 0), (3, .slice (some ⟨g7, 0, none⟩) fs.length c7, vals (natInts fs)), (3, .slice (some ⟨g3, 0, none⟩) n c3, fvals n f)]) := by
                    have h1 := O.out.set hqn (.int .i64 (k : Int))
                    rw [fvals_set hqn HCl.out] at h1
                    exact h1
                  obtain ⟨_, _, eN, hBN, _⟩ := O.out.form (by rw [fvals_len]; omega)
                  have hgnB : w.heap.size + 1 ≤ gn := by simp only [Value.slice.injEq, Option.some.injEq, Addr.mk.injEq] at eN; rw [eN.1.1]; exact hBN
                  have G9 : Hid (W1.grownBy (wr.setCell ⟨gn, q, none⟩ (.int .i64 (k : Int))) none) := grown_new G.out (grown_set _ _ _) (by rw [HS1.out]; exact hgnB)
                  have hkne : ((k : Int) == (fs.length : Int)) = false := by simp; omega
                  clear hgw eN hBN
                  simp only [Nat.lt_irrefl, if_false] at cN
                  go_wp2_with fail
                  go_roundw
                  case rel => exact ⟨q + 1, some ⟨g7, 0, none⟩, c7, by go_num, by rw [HFs1.out], by rw [HFs1.out], by omega, by rw [HFs1.out]; exact O9.out, G9.out⟩
                  case measure => simp [intOf]; omega
              | false =>
                have HSm : Hid (eqTo f δ p q b = false) := hsm
                clear hsm
                have HEq : Hid (eqF f δ l p q = false) := eqTo_false HSm.out hb
                clear hgw
                by_cases hbl : b < l
                · have hbi : (b : Int) < (l : Int) := by omega
                  go_wp2_with fail
                  go_roundw
                  case rel =>
                    refine ⟨k + 1, by go_num, by omega, fun j hj => ?_, O.out, G.out⟩
                    by_cases e : j = k
                    · subst e; rw [HP.out]; exact HEq.out
                    · exact HNe.out j (by omega)
                  case measure => simp [intOf]; omega
                · have hbi : ¬ (b : Int) < (l : Int) := by omega
                  go_wp2_with fail
                  go_roundw
                  case rel =>
                    refine ⟨k + 1, by go_num, by omega, fun j hj => ?_, O.out, G.out⟩
                    by_cases e : j = k
                    · subst e; rw [HP.out]; exact HEq.out
                    · exact HNe.out j (by omega)
                  case measure => simp [intOf]; omega
          · have hke : k = fs.length := by omega
            have hki : ¬ (k : Int) < (fs.length : Int) := by omega
            have HNo : Hid (¬ anyE (eqF f δ l) fs q) := fun ⟨r, hr, he⟩ => by
              obtain ⟨j, hj, rfl⟩ := List.getElem_of_mem hr
              have := HNe.out j (by omega)
              have e2 : fs.getD j 0 = fs[j] := by simp [List.getD, hj]
              rw [e2, he] at this
              cases this
            have HFs1 : Hid (fsE (eqF f δ l) (q + 1) = fs ++ [q]) := by show _ = _; rw [fsE_new (HFS.out ▸ HNo.out), HFS.out]
            have HCl : Hid (fs.length = clE (eqF f δ l) n q) := by
              show _ = _
              rw [← clE_at (eqF_refl f δ l) hqn, HFs1.out]
              refine (ixE_eq (by simp) (fun j hj => ?_) (fun _ => ?_)).symm
              · rw [getD_app _ hj]; exact HNe.out j (by omega)
              · have e1 : (fs ++ [q]).getD fs.length 0 = q := by simp [List.getD]
                rw [e1]; exact eqF_refl f δ l q
            have hO : Hid (∀ o, (wr.alloc o).ownsRow (w.heap.size + 1) 3 1 (.slice a7 fs.length c7) fs.length (vals (natInts fs))) := fun o => by
              have h2 := (own_2 (O.out.kept (grown_alloc wr o))).row
              simpa using h2
            have HSz : Hid (w.heap.size + 1 ≤ wr.heap.size) := by show _ ≤ _; rw [← HS1.out]; exact G.out.size
            have hkeq : ((k : Int) == (fs.length : Int)) = true := by simp; omega
            have hfl2 : fs.length < 3000 := by omega
            have HKe : Hid (k = fs.length) := hke
            subst hke
            obtain ⟨j0, hj, hy0, hy1, hy2⟩ := info_parts Try.info3i
            go_wp2_with (at_builtin; refine wpList_append_lies _ rfl (.tmp 80) (.tmp 82) 23 rfl (w.heap.size + 1) 3 j0 (.int .i64 0) 1 8 Try.underlying23 hj hy0 hy1 hy2 rfl (by decide) (.slice a7 fs.length c7) fs.length _ rfl (hO.out _) ⟨wr.heap.size, 0, none⟩ 1 1 [.int .i64 (q : Int)] rfl rfl (cell_one_new _ _ _) (by intro u hu; simp at hu; subst hu; rfl) (by omega) (by unfold maxLen; omega) (by omega) (by have := HSz.out; simp; omega) (wr.heap.size + 1) (by simp) ?_; intro g cap w3 ho3 hg3 hat3 _; have O3 : Hid (Owns (w.heap.size + 1) w3 [(3, .slice (some ⟨gn, 0, none⟩) n n, fvals n fun s => if s < q then clE (eqF f δ l) n s else 0), (3, .slice (some ⟨g, 0, none⟩) (fs.length + 1) cap, vals (natInts (fs ++ [q]))), (3, .slice a3 n c3, fvals n f)]) := (by have h1 := own_2 ((own_2 (O.out.kept (grown_alloc wr _))).append ho3 (by simp) hg3 hat3 (by simp)); rw [natInts_snoc] at h1; exact h1); have G3 : Hid (W1.grownBy w3 none) := (Owns.frame (w0 := W1) (own_2 (O.out.kept (grown_alloc wr _))) (by rw [HS1.out]; exact Nat.le_refl _) (grown_trans G.out (grown_alloc wr _)) hg3); clear ho3 hg3 hat3; have cN := O3.out.cell (fvals_get (f := fun s => if s < q then clE (eqF f δ l) n s else 0) hqn); have fN := O3.out.fz q; simp only [Nat.lt_irrefl, if_false] at cN)
            have O9 : Hid (Owns (w.heap.size + 1) (w3.setCell ⟨gn, q, none⟩ (.int .i64 (fs.length : Int))) [(3, .slice (some ⟨gn, 0, none⟩) n n, fvals n fun s => if s < q + 1 then clE (eqF f δ l) n s else 0), (3, .slice (some ⟨g, 0, none⟩) (fs.length + 1) cap, vals (natInts (fs ++ [q]))), (3, .slice a3 n c3, fvals n f)]) := by
              have h1 := O3.out.set hqn (.int .i64 (fs.length : Int))
              rw [fvals_set hqn HCl.out] at h1
              exact h1
            obtain ⟨_, _, eN, hBN, _⟩ := O3.out.form (by rw [fvals_len]; omega)
            have hgnB : w.heap.size + 1 ≤ gn := by simp only [Value.slice.injEq, Option.some.injEq, Addr.mk.injEq] at eN; rw [eN.1.1]; exact hBN
            have G9 : Hid (W1.grownBy (w3.setCell ⟨gn, q, none⟩ (.int .i64 (fs.length : Int))) none) := grown_new G3.out (grown_set _ _ _) (by rw [HS1.out]; exact hgnB)
            go_roundw
            case rel => exact ⟨q + 1, some ⟨g, 0, none⟩, cap, by go_num, by rw [HFs1.out]; simp, by rw [HFs1.out]; simp, by omega, by rw [HFs1.out]; simpa using O9.out, G9.out⟩
            case measure => simp [intOf]; omega
      · have hqe : q = n := by omega
        subst hqe
        have hqi : ¬ (q : Int) < (q : Int) := by omega
        have e0 : (fvals q fun s => if s < q then clE (eqF f δ l) q s else 0) = fvals q (clE (eqF f δ l) q) := by
          apply List.ext_getElem (by simp [fvals])
          intro i h1 h2
          have : i < q := by simpa [fvals] using h2
          simp [fvals, this]
        rw [e0] at O
        clear e0
        have O1 : Hid (Owns (w.heap.size + 1) wr [(3, .slice (some ⟨gn, 0, none⟩) q q, fvals q (clE (eqF f δ l) q))]) := own_one O.out
        have hlt2 : Hid (∀ s, s < q → clE (eqF f δ l) q s < fs.length) := fun s hs => by have := clE_lt (eqF_refl f δ l) hs; rwa [HFS.out] at this
        by_cases hc : fs.length = cnt
        · have hci : ((fs.length : Int) == (cnt : Int)) = true := by simp; omega
          have HE : Hid (∀ p r, p < q → r < q → (clE (eqF f δ l) q p = clE (eqF f δ l) q r ↔ Ner δ mk l p r)) := fun p r hp hr => MO.out.end HD.out (by omega) (by rw [HFS.out]; exact hc) hp hr
          have HGw : Hid (w.grownBy wr none) := (Box.out wr G.out).1
          have Hbd : Hid (∀ s, s < q → clE (eqF f δ l) q s < q) := fun s hs => by have := hlt2.out s hs; omega
          have HC : Hid (fs.length = cnt) := hc
          clear hc
          go_wp2_with fail
          go_ret
          exact ⟨some ⟨gn, 0, none⟩, q, clE (eqF f δ l) q, rfl, O1.out.base (by omega), HE.out, Hbd.out, HGw.out⟩
        · have hci : ((fs.length : Int) == (cnt : Int)) = false := by simp; omega
          have hge : cnt ≤ fs.length := by have := MO.out.grows; rwa [HFS.out] at this
          have MO2 : Hid (Moore δ mk q l (clE (eqF f δ l) q) fs.length) := by have := MO.out.next HD.out; rwa [HFS.out] at this
          go_wp2_with fail
          go_roundw
          case rel => exact ⟨fs.length, clE (eqF f δ l) q, some ⟨gn, 0, none⟩, q, rfl, rfl, by omega, MO2.out, fun s hs => by have := hlt2.out s hs; omega, O1.out, G.out⟩
          case measure => simp [intOf]; omega

end Go.Proofs.Ytcgkflddipflbaa
