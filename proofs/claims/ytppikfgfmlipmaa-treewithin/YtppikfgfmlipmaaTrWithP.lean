/- TreeWithin holds: whatever two automata of trees and whatever tree come in, in whatever memory, shared or not: the program refuses what the reference refuses, with the same error, and else says whether the one accepts all that the other does, or shows a tree that the one accepts and the other does not. -/
import Derived.Test.YtppikfgfmlipmaaTrWithin
import Derived.Test.YtppikfgfmlipmaaTrWithB
import Derived.Test.YtppikfgfmlipmaaTrApart
import Derived.Test.YtppikfgfmlipmaaTrWLaw
import Derived.Test.YtppikfgfmlipmaaTrAccR
import Derived.Test.YtppikfgfmlipmaaTrTreeR
import Derived.Test.YtppikfgfmlipmaaTrCheckR
import Derived.Test.YtppikfgfmlipmaaTrSized
import Derived.Test.YtppikfgfmlipmaaTrNodes
namespace Go.Proofs.Ytppikfgfmlipmaa
open Go.ChangeShapes Go.WideShapes Go.ChangeAt Go.RowKit Go.Joins
set_option linter.unusedVariables false

theorem chkB_cases {x y : Trs} (h : chkB x y ≠ 0) : (checkT x ≠ 0 ∧ chkB x y = checkT x) ∨ (checkT x = 0 ∧ checkT y ≠ 0 ∧ chkB x y = checkT y) ∨ (checkT x = 0 ∧ checkT y = 0 ∧ x.L ≠ y.L ∧ chkB x y = 3) ∨ (checkT x = 0 ∧ checkT y = 0 ∧ x.L = y.L ∧ ((3 < x.N ∨ 3 < y.N) ∨ 2 < x.L) ∧ chkB x y = 1) := by
  unfold chkB at h ⊢
  by_cases h1 : checkT x = 0
  · by_cases h2 : checkT y = 0
    · by_cases h3 : x.L = y.L
      · by_cases h4 : (3 < x.N ∨ 3 < y.N) ∨ 2 < x.L
        · exact .inr (.inr (.inr ⟨h1, h2, h3, h4, by rw [if_neg (by simp [h1]), if_neg (by simp [h2]), if_neg (by simp [h3]), if_pos h4]⟩))
        · rw [if_neg (by simp [h1]), if_neg (by simp [h2]), if_neg (by simp [h3]), if_neg h4] at h
          exact absurd rfl h
      · exact .inr (.inr (.inl ⟨h1, h2, h3, by simp [h1, h2, h3]⟩))
    · exact .inr (.inl ⟨h1, h2, by simp [h1, h2]⟩)
  · exact .inl ⟨h1, by simp [h1]⟩
theorem chkB_zero {x y : Trs} (h : chkB x y = 0) : checkT x = 0 ∧ checkT y = 0 ∧ x.L = y.L ∧ x.N ≤ 3 ∧ y.N ≤ 3 ∧ x.L ≤ 2 := by
  unfold chkB at h
  by_cases h1 : checkT x = 0
  · rw [if_neg (by simp [h1])] at h
    by_cases h2 : checkT y = 0
    · rw [if_neg (by simp [h2])] at h
      by_cases h3 : x.L = y.L
      · rw [if_neg (by simp [h3])] at h
        by_cases h4 : (3 < x.N ∨ 3 < y.N) ∨ 2 < x.L
        · rw [if_pos h4] at h; cases h
        · exact ⟨h1, h2, h3, by omega, by omega, by omega⟩
      · rw [if_pos h3] at h; cases h
    · rw [if_pos h2] at h; exact absurd h h2
  · rw [if_pos h1] at h; exact absurd h h1

theorem wlaw_walk (x y : Trs) (b e b' e' a : Option Addr) (d f d' f' c : Nat) (T : List NodeI) (w : World) (h : TrsAt w x b e) (h' : TrsAt w y b' e') (hT : NodesAt w a T) (hm : T.length ≤ maxLen) :
    Calls Try.prog 3 #[trsV x.L x.N b x.R.length d x.S e x.M.length f, trsV y.L y.N b' y.R.length d' y.S e' y.M.length f', treeV a T.length c] w (Says (.bool true) w) := by
  have HCa : ∀ W, w.grownBy W none → Calls Try.prog 5 #[trsV x.L x.N b x.R.length d x.S e x.M.length f] W (Says (.int .i64 (checkT x)) W) := fun W hW => checkTR_any x b e d f W (h.grown hW)
  have HCb : ∀ W, w.grownBy W none → Calls Try.prog 5 #[trsV y.L y.N b' y.R.length d' y.S e' y.M.length f'] W (Says (.int .i64 (checkT y)) W) := fun W hW => checkTR_any y b' e' d' f' W (h'.grown hW)
  by_cases hc : chkB x y = 0
  case neg => exact wlaw_bad x.L x.N x.S y.L y.N y.S b e b' e' a x.R.length d x.M.length f y.R.length d' y.M.length f' T.length c w (checkT x) (checkT y) (chkB x y) hc (chkB_cases hc) (fun W hW => within_bad x y b e b' e' d f d' f' W (h.grown hW) (h'.grown hW) hc) HCa HCb
  obtain ⟨hcx, hcy, hLL, hn, hn', hl⟩ := chkB_zero hc
  rw [hcx] at HCa
  rw [hcy] at HCb
  have hx := goodT_of_check hcx
  have hy := goodT_of_check hcy
  have l1 := hx.l1
  have n1 := hx.n1
  have n1' := hy.n1
  obtain ⟨L, hL⟩ : ∃ L : Nat, x.L = L := ⟨x.L.toNat, by omega⟩
  obtain ⟨N, hN⟩ : ∃ N : Nat, x.N = N := ⟨x.N.toNat, by omega⟩
  obtain ⟨N', hN'⟩ : ∃ N' : Nat, y.N = N' := ⟨y.N.toNat, by omega⟩
  have hL' : y.L = L := by rw [← hLL]; exact hL
  have HWi : ∀ W, w.grownBy W none → Calls Try.prog 4 #[trsV x.L x.N b x.R.length d x.S e x.M.length f, trsV y.L y.N b' y.R.length d' y.S e' y.M.length f'] W (WithinPost x y L W) := fun W hW => within_good x y b e b' e' d f d' f' W (h.grown hW) (h'.grown hW) hx hy L N N' hL hL' hN hN' (by omega) (by omega) (by omega) hc
  have HAp : ∀ W, w.grownBy W none → Calls Try.prog 6 #[trsV x.L x.N b x.R.length d x.S e x.M.length f, trsV y.L y.N b' y.R.length d' y.S e' y.M.length f'] W (ApartPost x y L W) := fun W hW => apart_any x y b e b' e' d f d' f' W (h.grown hW) (h'.grown hW) hx hy L N N' hL hL' hN hN' (by omega) (by omega)
  have HAy : ∀ (a2 : Option Addr) (c2 : Nat) (T2 : List NodeI) (U : World), w.grownBy U none → NodesAt U a2 T2 → treeF x.L T2 = 0 → Calls Try.prog 8 #[trsV y.L y.N b' y.R.length d' y.S e' y.M.length f', treeV a2 T2.length c2] U (Says (.bool (accTB y T2)) U) := fun a2 c2 T2 U hU hT2 h0 => acceptsR_any y b' e' a2 d' f' c2 T2 U (h'.grown hU) hT2 hy (goodNd_of_tree (by rw [← hLL]; exact h0))
  have HAx : ∀ (a2 : Option Addr) (c2 : Nat) (T2 : List NodeI) (U : World), w.grownBy U none → NodesAt U a2 T2 → treeF x.L T2 = 0 → Calls Try.prog 8 #[trsV x.L x.N b x.R.length d x.S e x.M.length f, treeV a2 T2.length c2] U (Says (.bool (accTB x T2)) U) := fun a2 c2 T2 U hU hT2 h0 => acceptsR_any x b e a2 d f c2 T2 U (h.grown hU) hT2 hx (goodNd_of_tree h0)
  rw [← hLL] at HCb HWi HAp HAy ⊢
  by_cases hno : ∀ t, ¬ Sep x y L t
  · refine wlaw_within x.L x.N x.S y.N y.S b e b' e' a x.R.length d x.M.length f y.R.length d' y.M.length f' T.length c w hn hn' hl (treeF x.L T) ?_ ?_ (fun W hW => treeR_any x.L T a c W (hT.grown hW) hm) ?_ HCa HCb
    · intro W hW
      refine (HWi W hW).mono fun E W' hp => ?_
      obtain ⟨T2, a2, c2, is, er, h1, h2, h3, h4⟩ := hp
      rcases h2 with ⟨_, _, _, ⟨t, ht⟩, _⟩ | ⟨rfl, rfl, rfl, _⟩ | ⟨_, _, _, _, _, _, ⟨t, ht, _⟩, _⟩
      · exact absurd ht (hno t)
      · exact ⟨a2, c2, h1, h4⟩
      · exact absurd ht (hno t)
    · intro W hW
      refine (HAp W hW).mono fun E W' hp => ?_
      obtain ⟨r, h1, h2, _, h4⟩ := hp
      rcases h2 with ⟨h2, _⟩ | ⟨_, ⟨t, ht, _⟩, _⟩
      · exact ⟨r, h1, h2, h4⟩
      · exact absurd ht (hno t)
    · intro h0
      refine ⟨accTB x T, accTB y T, fun hp => ?_, fun W hW => HAx a c T W hW (hT.grown hW) h0, fun W hW => HAy a c T W hW (hT.grown hW) h0⟩
      have hg := goodNd_of_tree h0
      have hp1 : 1 ≤ T.length := hg.n1
      obtain ⟨t, ok, hs⟩ := tree_of (L := L) (T := T) (fun i hi => by have := hg.ok i hi; rwa [hL] at this) (T.length - 1) (by omega)
      have b1 := acc_tree (x := x) (N := N) (by have := hx.ru; rwa [hL, hN] at this) (by have := hx.m; omega) hs
      have b2 := acc_tree (x := y) (N := N') (by have := hy.ru; rwa [hL', hN'] at this) (by have := hy.m; omega) hs
      rw [b2]
      cases hq : mkS y.M (t.set y.R) y.M.length with
      | true => rfl
      | false => exact absurd ⟨ok, by rw [← b1]; exact hp, hq⟩ (hno t)
  by_cases hsm : ∃ t, Sep x y L t ∧ t.size ≤ 60
  · obtain ⟨t, ht, h60⟩ := hsm
    refine wlaw_apart x.L x.N x.S y.N y.S b e b' e' a x.R.length d x.M.length f y.R.length d' y.M.length f' T.length c w hn hn' hl ?_ ?_ HCa HCb
    · intro W hW
      refine (HWi W hW).mono fun E W' hp => ?_
      obtain ⟨T2, a2, c2, is, er, h1, h2, h3, h4⟩ := hp
      rcases h2 with ⟨_, _, _, _, hh⟩ | ⟨_, _, _, hh⟩ | ⟨rfl, rfl, k1, k2, k3, k4, _⟩
      · have := hh t ht; omega
      · exact absurd ht (hh t)
      · refine ⟨a2, T2.length, c2, h1, fun U hU hV => ?_, fun U hU hV => ?_, fun U hU hV => ?_, h4⟩
        · have := treeR_any x.L T2 a2 c2 U (h3.grown hV) (by unfold maxLen; omega)
          rwa [k1] at this
        · have := HAx a2 c2 T2 U hU (h3.grown hV) k1
          rwa [k2] at this
        · have := HAy a2 c2 T2 U hU (h3.grown hV) k1
          rwa [k3] at this
    · intro W hW
      refine (HAp W hW).mono fun E W' hp => ?_
      obtain ⟨r, h1, h2, _, h4⟩ := hp
      rcases h2 with ⟨_, h2⟩ | ⟨h2, _, h3⟩
      · exact absurd ht (h2 t)
      · have := h3 t ht
        exact ⟨r, h1, ⟨h2, by omega⟩, h4⟩
  · have hbig : ∀ t, Sep x y L t → 60 < t.size := fun t ht => by
      by_cases hh : t.size ≤ 60
      · exact absurd ⟨t, ht, hh⟩ hsm
      · omega
    refine wlaw_full x.L x.N x.S y.N y.S b e b' e' a x.R.length d x.M.length f y.R.length d' y.M.length f' T.length c w hn hn' hl ?_ ?_ HCa HCb
    · intro W hW
      refine (HWi W hW).mono fun E W' hp => ?_
      obtain ⟨T2, a2, c2, is, er, h1, h2, h3, h4⟩ := hp
      rcases h2 with ⟨rfl, rfl, rfl, _⟩ | ⟨_, _, _, hh⟩ | ⟨_, _, _, _, _, k4, ⟨t, ht, k5⟩, _⟩
      · exact ⟨a2, c2, h1, h4⟩
      · exact absurd hh hno
      · have := hbig t ht; omega
    · intro W hW
      refine (HAp W hW).mono fun E W' hp => ?_
      obtain ⟨r, h1, h2, _, h4⟩ := hp
      rcases h2 with ⟨_, h2⟩ | ⟨_, ⟨t, ht, h3⟩, _⟩
      · exact absurd h2 hno
      · have := hbig t ht
        exact ⟨r, h1, by omega, h4⟩

theorem within_own : ownKnob Try.prog.godebug = none := by kernel_rfl

set_option maxRecDepth 100000 in
theorem within_lifted (os : Os) (started : os.Started) (H : Type) (enc : TypeId × Value → H) :
    ReturnsInHanded {} Try.checked os 3 .any (Rows.treeWithinSpec.pre6 enc Try.prog Try.f3 Rows.treeWithinRow.domain false) (Rows.treeWithinSpec.post enc Try.prog Try.f3 false true false false) := by
  refine returnsInHanded_of_change_sized (C := Try.checked) within_own started (by kernel_rfl) Try.func3
    (ChangeSpec.witness6 (enc := enc) (C := Try.checked) false ⟨#[], #[.agg #[.int .i64 0, .int .i64 0, .slice none 0 0, .int .i64 0, .slice none 0 0], .agg #[.int .i64 0, .int .i64 0, .slice none 0 0, .int .i64 0, .slice none 0 0], .agg #[.slice none 0 0]], []⟩ 8 (by kernel_rfl) (by kernel_rfl) (by kernel_rfl) (by kernel_rfl)) ?_
  intro W base args ds gs before hval0 hW hcnd hsz0 _
  have hval : ∀ (j : Nat) t v, Try.f3.params[j]? = some t → args[j]? = some v → Value.okWide Try.prog W .any base t v := hval0
  have hsz : (DataW.weightsEach Try.prog (Try.f3.params.toList ++ Rows.treeWithinSpec.plain.varTypes Try.prog) (ds ++ gs)).all (· ≤ reachBytes) = true := hsz0
  have hW' := hW
  obtain ⟨p, q, hA0, hV, rfl, hfz, hnd⟩ := hW
  have hA : DataW.TrodAll enc Try.prog W 0 (fun _ => true) true Try.f3.params.toList args.toList ds p := hA0
  rw [Try.params3] at hA hval hsz
  obtain ⟨v0, vs0, d0, ds0, p0, q0, hargs, rfl, rfl, h0, r0⟩ := trodAll_cons hA
  obtain ⟨v1, vs1, d1, ds1, p1, q1, rfl, rfl, rfl, h1, r1⟩ := trodAll_cons r0
  obtain ⟨v2, vs2, d2, ds2, p2, q2, rfl, rfl, rfl, h2, r2⟩ := trodAll_cons r1
  obtain ⟨rfl, rfl, rfl⟩ := trodAll_nil r2
  obtain rfl : args = #[v0, v1, v2] := by cases args; simp_all
  obtain ⟨rfl, rfl⟩ := trodVars_none hV
  have lt0 : ∀ x ∈ p0, x.block < W.heap.size := by obtain ⟨m, hm⟩ := h0; exact DataW.trod_lt m _ _ _ hm
  have lt1 : ∀ x ∈ p1, x.block < W.heap.size := by obtain ⟨m, hm⟩ := h1; exact DataW.trod_lt m _ _ _ hm
  have lt2 : ∀ x ∈ p2, x.block < W.heap.size := by obtain ⟨m, hm⟩ := h2; exact DataW.trod_lt m _ _ _ hm
  have hw0 : ∀ m ∈ d0.weights Try.prog 25, m ≤ reachBytes := fun m hm => by
    have := List.all_eq_true.1 hsz m (DataW.weights_mem_each (j := 0) rfl rfl m hm)
    simpa using this
  have hw1 : ∀ m ∈ d1.weights Try.prog 25, m ≤ reachBytes := fun m hm => by
    have := List.all_eq_true.1 hsz m (DataW.weights_mem_each (j := 1) rfl rfl m hm)
    simpa using this
  obtain ⟨x, b, e, d, f, rfl, hD, _⟩ := trs_sized (hval 0 25 v0 rfl rfl) h0 hw0
  obtain ⟨y, b', e', d', f', rfl, hD', _⟩ := trs_sized (hval 1 25 v1 rfl rfl) h1 hw1
  obtain ⟨T, a, c, rfl, hT, hTm⟩ := tree_of_trod (hval 2 28 v2 rfl rfl) h2
  clear hA0 hval0 hsz0
  refine (wlaw_walk x y b e b' e' a d f d' f' c T W hD hD' hT hTm).mono fun E W' ⟨he, hg⟩ => ?_
  subst he
  have bel : Below W.heap.size W W' := below_of_grown hg
  exact ⟨_, rfl, _, _, _, [], _, [], hW', trodAll_mk1 (shut_bool Try.underlying4 _), (trodAll_cons_mk (Below.trod Try.laidOut (by kernel_rfl) (of_decide_eq_true (by kernel_rfl)) h0 bel lt0) (trodAll_cons_mk (Below.trod Try.laidOut (by kernel_rfl) (of_decide_eq_true (by kernel_rfl)) h1 bel lt1) (trodAll_cons_mk (Below.trod Try.laidOut (by kernel_rfl) (of_decide_eq_true (by kernel_rfl)) h2 bel lt2) trodAll_mk0))), rfl, bel.frame _, fun h => by cases h⟩

theorem treeWithin_holds : Rows.TreeWithinSaid :=
  OpenClaim.holds_of_wide 3 Try.f3 rfl rfl rfl rfl rfl rfl rfl ⟨rfl, rfl, rfl, rfl, rfl⟩ rfl rfl rfl rfl rfl (by kernel_rfl) Try.func3 (by kernel_rfl)
    (of_decide_eq_true (by kernel_rfl)) (by unfold Func.isWrapper; first | (rw [if_pos (by decide +kernel)]; kernel_rfl) | (rw [if_neg (by decide +kernel)]; exact ⟨rfl, rfl⟩))
    (fun os started H enc _ => within_lifted os started H enc)
#print axioms treeWithin_holds

end Go.Proofs.Ytppikfgfmlipmaa
