/- The reference's Mixed. -/
import Derived.Test.YtofjboelplknhaaRMixDS
import Derived.Test.YtofjboelplknhaaBMixed
namespace Go.Proofs.Ytofjboelplknhaa
open Go.RowKit
set_option linter.unusedVariables false
attribute [local go_sem ↓] app_fold

/-- What a step of an automaton reads, with its address known. -/
theorem reads_at {w : World} {l : Nat} {S : Int} {R : List (List Int)} {M : List Int} {ba oa bm om : Nat} (h : DetAt w ⟨l, S, R, M⟩ (some ⟨ba, oa, none⟩) (some ⟨bm, om, none⟩)) (hG : Good ⟨l, S, R, M⟩) {W : World} (hW : w.grownBy W none) {p : Nat} (hp : p < R.length) :
    (∀ x, x < l → ∃ bx ox cx, W.cell? ⟨ba, oa + p, none⟩ = some (.slice (some ⟨bx, ox, none⟩) l cx) ∧ W.cell? ⟨bx, ox + x, none⟩ = some (.int .i64 ((Dfa.nx ⟨l, S, R, M⟩ p x : Nat) : Int))) ∧
    W.cell? ⟨bm, om + p, none⟩ = some (.int .i64 (M.getD p 0)) ∧ (M.getD p 0 = 0 ∨ M.getD p 0 = 1) := by
  refine ⟨fun x hx => ?_, ?_, hG.m p (by have := hG.ml; simp only at this ⊢; omega)⟩
  · obtain ⟨b, off, bx, ox, cx, ha, h1, h2⟩ := step_reads (l := x) (h.grown hW) hG hp (by omega)
    cases ha
    simp only [Int.toNat_natCast] at h1
    exact ⟨bx, ox, cx, h1, h2⟩
  · obtain ⟨b, off, ha, h1⟩ := mark_reads (h.grown hW) hG hp
    cases ha
    exact h1

/-- A number by another name. -/
def IsN (N x : Nat) : Prop := N = x

set_option maxHeartbeats 1600000 in
set_option maxRecDepth 100000 in
theorem mixedR_any (S S' t : Int) (l : Nat) (R R' : List (List Int)) (M M' : List Int) (a a' e e' : Option Addr) (c c' f f' : Nat) (w : World) (h : DetAt w ⟨l, S, R, M⟩ a a') (hG : Good ⟨l, S, R, M⟩) (h2 : DetAt w ⟨l, S', R', M'⟩ e e') (hG2 : Good ⟨l, S', R', M'⟩) (ht : 0 ≤ t ∧ t ≤ 15) (hN : R.length * R'.length ≤ 3000) :
    Calls Try.prog 21 #[detV l S a R.length c a' M.length c', detV l S' e R'.length f e' M'.length f', .int .i64 t] w
      (LeastPost (nx2 ⟨l, S, R, M⟩ ⟨l, S', R', M'⟩ R'.length) (mk2 t ⟨l, S, R, M⟩ ⟨l, S', R', M'⟩ R'.length) (R.length * R'.length) l (S.toNat * R'.length + S'.toNat) w) := by
  have hl1 : 1 ≤ l := by have := hG.l1; simp only at this; omega
  have hl4 : l ≤ 4 := by have := hG.l4; simp only at this; omega
  have hS0 : 0 ≤ S ∧ S < (R.length : Int) := hG.s
  have hS0' : 0 ≤ S' ∧ S' < (R'.length : Int) := hG2.s
  have hn1 : 1 ≤ R.length := hG.n1
  have hn3 : R.length ≤ 3000 := hG.n3
  have hk1 : 1 ≤ R'.length := hG2.n1
  have hk3 : R'.length ≤ 3000 := hG2.n3
  have hml : M.length = R.length := hG.ml
  have hml' : M'.length = R'.length := hG2.ml
  obtain ⟨st, hst⟩ : ∃ st : Nat, S = st := ⟨S.toNat, by omega⟩
  obtain ⟨st', hst'⟩ : ∃ st' : Nat, S' = st' := ⟨S'.toNat, by omega⟩
  subst hst hst'
  simp only [Int.toNat_natCast]
  obtain ⟨ba, oa, rfl, _⟩ := h.rows.at (k := 0) (by simp only; omega)
  obtain ⟨be, oe, rfl, _⟩ := h2.rows.at (k := 0) (by simp only; omega)
  obtain ⟨bm, om, rfl, _⟩ := h.marks.at (k := 0) (by simp only; omega)
  obtain ⟨bm', om', rfl, _⟩ := h2.marks.at (k := 0) (by simp only; omega)
  have hs0N : st * R'.length + st' < R.length * R'.length := cod_lt (by omega) (by omega)
  -- all about the two, under names
  have HLs : Hid (∀ W aN cN aM cM, DetAt W ⟨l, ((st * R'.length + st' : Nat) : Int), prodR ⟨l, st, R, M⟩ ⟨l, st', R', M'⟩ l, prodM t ⟨l, st, R, M⟩ ⟨l, st', R', M'⟩⟩ aN aM → Calls Try.prog 15 #[.agg #[.int .i64 l, .int .i64 ((st * R'.length + st' : Nat) : Int), .slice aN (R.length * R'.length) cN, .slice aM (R.length * R'.length) cM]] W (LeastPost (nx2 ⟨l, st, R, M⟩ ⟨l, st', R', M'⟩ R'.length) (mk2 t ⟨l, st, R, M⟩ ⟨l, st', R', M'⟩ R'.length) (R.length * R'.length) l (st * R'.length + st') W)) := fun W aN cN aM cM hd => by
    have hgd := prod_good (st := st) (st' := st') (t := t) hG hG2 rfl rfl hN ht (by simp only; omega) (by simp only; omega)
    simp only at hgd
    have h1 := leastR_any l ((st * R'.length + st' : Nat) : Int) (prodR ⟨l, st, R, M⟩ ⟨l, st', R', M'⟩ l) (prodM t ⟨l, st, R, M⟩ ⟨l, st', R', M'⟩) aN aM cN cM W hd hgd
    simp only [prodR_len, prodM_len, Int.toNat_natCast] at h1
    refine h1.mono ?_
    rintro E w' ⟨aR, cR, aM', cM', rs, M9, hE, hlo, hrn, hm9, hr9, ho, hg⟩
    refine ⟨aR, cR, aM', cM', rs, M9, hE, LeastOf.congr (fun s b hs hb => ?_) hs0N (fun s b hs hb => prod_nx hs hb) (fun s hs => prod_mk hs) hlo, hrn, hm9, hr9, ho, hg⟩
    rw [prod_nx hs hb]
    exact cod_lt (hG.nx_lt (pxx_lt hs) (by simp; exact hb)) (hG2.nx_lt (pyy_lt hs) (by simp; exact hb))
  have HRa : Hid (∀ W p, w.grownBy W none → p < R.length → (∀ x, x < l → ∃ bx ox cx, W.cell? ⟨ba, oa + p, none⟩ = some (.slice (some ⟨bx, ox, none⟩) l cx) ∧ W.cell? ⟨bx, ox + x, none⟩ = some (.int .i64 ((Dfa.nx ⟨l, st, R, M⟩ p x : Nat) : Int))) ∧
    W.cell? ⟨bm, om + p, none⟩ = some (.int .i64 (M.getD p 0)) ∧ (M.getD p 0 = 0 ∨ M.getD p 0 = 1)) := fun W p hW hp => reads_at h hG hW hp
  have HRe : Hid (∀ W q, w.grownBy W none → q < R'.length → (∀ x, x < l → ∃ bx ox cx, W.cell? ⟨be, oe + q, none⟩ = some (.slice (some ⟨bx, ox, none⟩) l cx) ∧ W.cell? ⟨bx, ox + x, none⟩ = some (.int .i64 ((Dfa.nx ⟨l, st', R', M'⟩ q x : Nat) : Int))) ∧
    W.cell? ⟨bm', om' + q, none⟩ = some (.int .i64 (M'.getD q 0)) ∧ (M'.getD q 0 = 0 ∨ M'.getD q 0 = 1)) := fun W q hW hq => reads_at h2 hG2 hW hq
  have HLt : Hid (∀ p q x, p < R.length → q < R'.length → x < l → nx2 ⟨l, st, R, M⟩ ⟨l, st', R', M'⟩ R'.length (p * R'.length + q) x = Dfa.nx ⟨l, st, R, M⟩ p x * R'.length + Dfa.nx ⟨l, st', R', M'⟩ q x ∧ Dfa.nx ⟨l, st, R, M⟩ p x < R.length ∧ Dfa.nx ⟨l, st', R', M'⟩ q x < R'.length) := fun p q x hp hq hx => ⟨by unfold nx2; rw [pxx_code hq, pyy_code hq], hG.nx_lt hp (by simp; exact hx), hG2.nx_lt hq (by simp; exact hx)⟩
  obtain ⟨d, hd⟩ : ∃ d : Dfa, (⟨l, st, R, M⟩ : Dfa) = d := ⟨_, rfl⟩
  obtain ⟨g, hg⟩ : ∃ g : Dfa, (⟨l, st', R', M'⟩ : Dfa) = g := ⟨_, rfl⟩
  obtain ⟨n, hn⟩ : ∃ n, R.length = n := ⟨_, rfl⟩
  obtain ⟨k, hk⟩ : ∃ k, R'.length = k := ⟨_, rfl⟩
  obtain ⟨mn, hmn⟩ : ∃ mn, M.length = mn := ⟨_, rfl⟩
  obtain ⟨mk, hmk⟩ : ∃ mk, M'.length = mk := ⟨_, rfl⟩
  have HdR : Hid (d.R.length = n) := by show _ = _; rw [← hd, ← hn]
  have HgR : Hid (g.R.length = k) := by show _ = _; rw [← hg, ← hk]
  have HdM : Hid (∀ p, d.M.getD p 0 = M.getD p 0) := fun p => by rw [← hd]
  have HgM : Hid (∀ p, g.M.getD p 0 = M'.getD p 0) := fun p => by rw [← hg]
  rw [hd, hg, hn, hk] at HLs HLt
  rw [hd, hn] at HRa
  rw [hg, hk] at HRe
  rw [hd, hg, hn, hk, hmn, hmk]
  rw [hn, hmn] at hml
  rw [hk, hmk] at hml'
  rw [hn] at hn1 hn3
  rw [hk] at hk1 hk3
  rw [hn, hk] at hs0N hN
  subst hml hml'
  obtain ⟨W1, hW1⟩ : ∃ W1, W1 = ((w.alloc (.cells #[.int .i64 l, .int .i64 st, .slice (some ⟨ba, oa, none⟩) mn c, .slice (some ⟨bm, om, none⟩) mn c'] 25)).alloc (.cells #[.int .i64 l, .int .i64 st', .slice (some ⟨be, oe, none⟩) mk f, .slice (some ⟨bm', om', none⟩) mk f'] 25)).alloc (.cells #[.int .i64 0, .int .i64 0, .slice none 0 0, .slice none 0 0] 25) := ⟨_, rfl⟩
  have HS1 : Hid (W1.heap.size = w.heap.size + 1 + 1 + 1) := by show _ = _; rw [hW1]; simp
  have Box : Hid (∀ W, W1.grownBy W none → w.grownBy W none ∧ W.cell? ⟨w.heap.size, 0, none⟩ = some (.int .i64 l) ∧ W.cell? ⟨w.heap.size, 2, none⟩ = some (.slice (some ⟨ba, oa, none⟩) mn c) ∧ W.cell? ⟨w.heap.size, 3, none⟩ = some (.slice (some ⟨bm, om, none⟩) mn c') ∧ W.cell? ⟨w.heap.size + 1, 2, none⟩ = some (.slice (some ⟨be, oe, none⟩) mk f) ∧ W.cell? ⟨w.heap.size + 1, 3, none⟩ = some (.slice (some ⟨bm', om', none⟩) mk f')) := fun W hW => by
    rw [hW1] at hW
    have h1 := grown_trans (grown_alloc _ _) hW
    have h3 := grown_trans (grown_alloc _ _) h1
    have b1 := box4 (w := w) h3
    have b2 := box4 h1
    rw [World.size_alloc] at b2
    exact ⟨grown_trans (grown_alloc _ _) h3, b1.1, b1.2.2.1, b1.2.2.2, b2.2.2.1, b2.2.2.2⟩
  have HZ1 : Hid (∀ W, W1.grownBy W none → W.heap[w.heap.size + 1 + 1]? = some (.cells #[.int .i64 0, .int .i64 0, .slice none 0 0, .slice none 0 0] 25 (0, 0))) := fun W hW => by
    have h1 := heap_alloc_new ((w.alloc (.cells #[.int .i64 l, .int .i64 st, .slice (some ⟨ba, oa, none⟩) mn c, .slice (some ⟨bm, om, none⟩) mn c'] 25)).alloc (.cells #[.int .i64 l, .int .i64 st', .slice (some ⟨be, oe, none⟩) mk f, .slice (some ⟨bm', om', none⟩) mk f'] 25)) (.cells #[.int .i64 0, .int .i64 0, .slice none 0 0, .slice none 0 0] 25)
    rw [World.size_alloc, World.size_alloc, ← hW1] at h1
    exact (hW.block _ (by rw [HS1.out]; omega) (by simp)).trans h1
  obtain ⟨s0, hs0⟩ : ∃ s0, st * mk + st' = s0 := ⟨_, rfl⟩
  rw [hs0] at HLs hs0N ⊢
  obtain ⟨x0, hx0⟩ : ∃ x0, st * mk = x0 := ⟨_, rfl⟩
  rw [hx0] at hs0
  obtain ⟨N9, hN9⟩ : ∃ N9, mn * mk = N9 := ⟨_, rfl⟩
  rw [hN9] at HLs hs0N hN ⊢
  have hw0 : IntKind.i64.wrap ((st : Int) * (mk : Int)) = (x0 : Int) := by rw [show (st : Int) * (mk : Int) = (x0 : Int) by rw [← hx0]; simp, IntKind.wrap_i64]; omega
  have hw1 : IntKind.i64.wrap ((x0 : Int) + (st' : Int)) = (s0 : Int) := by rw [show (x0 : Int) + (st' : Int) = (s0 : Int) by rw [← hs0]; simp, IntKind.wrap_i64]; omega
  obtain ⟨W2, hW2⟩ : ∃ W2, W2 = W1.alloc (.cells #[.int .i64 (l : Int), .int .i64 (s0 : Int), .slice none 0 0, .slice none 0 0] 25) := ⟨_, rfl⟩
  have HW2 : Hid (W2 = (((w.alloc (.cells #[.int .i64 l, .int .i64 st, .slice (some ⟨ba, oa, none⟩) mn c, .slice (some ⟨bm, om, none⟩) mn c'] 25)).alloc (.cells #[.int .i64 l, .int .i64 st', .slice (some ⟨be, oe, none⟩) mk f, .slice (some ⟨bm', om', none⟩) mk f'] 25)).alloc (.cells #[.int .i64 0, .int .i64 0, .slice none 0 0, .slice none 0 0] 25)).alloc (.cells #[.int .i64 (l : Int), .int .i64 (s0 : Int), .slice none 0 0, .slice none 0 0] 25)) := by show _ = _; rw [hW2, hW1]
  have A2 : Hid (MxAt d g t (w.heap.size + 1 + 1 + 1) l s0 W1 0 W2 none 0 none 0 [] []) := by
    refine ⟨⟨?_, by rw [hW2]; exact grown_alloc _ _⟩, rfl, by simp⟩
    have o1 := (((Owns.no W1.heap.size W1).empty 3).empty 23).made (arr := #[.int .i64 (l : Int), .int .i64 (s0 : Int), .slice none 0 0, .slice none 0 0]) (n := 4) (Nat.le_refl _) 25 rfl (by unfold maxLen; omega)
    rw [← hW2, HS1.out] at o1
    rw [HS1.out, List.take_zero]
    exact o1
  have HN9 : Hid (mn * mk = N9) := hN9
  clear h h2 hG hG2 hd hg hn hk hmn hmk hW1 hW2 hS0 hS0' hs0 hx0 hN9
  go_enter Try.func21, Try.ntmps21
  go_wp2_with fail
  rw [← HW2.out]
  go_loopw [9] (fun v9 wr => ∃ (p N : Nat) (aN : Option Addr) (cN : Nat) (aM : Option Addr) (cM : Nat) (mvs : List (Value × List Int)), v9 = .int .i64 p ∧ p ≤ mn ∧ IsN N (p * mk) ∧ MxAt d g t (w.heap.size + 1 + 1 + 1) l s0 W1 N wr aN cN aM cM mvs []) (fun v _ => mn - (intOf v).toNat)
  case atStart => exact ⟨0, 0, none, 0, none, 0, [], rfl, by omega, by unfold IsN; simp, A2.out⟩
  case round =>
    clear A2
    rename World => wo
    obtain ⟨p, N, aN, cN, aM, cM, mvs, rfl, hp, hNp, hA⟩ := hrel
    have A : Hid (MxAt d g t (w.heap.size + 1 + 1 + 1) l s0 W1 N wo aN cN aM cM mvs []) := hA
    have HNp : Hid (IsN N (p * mk)) := hNp
    obtain ⟨hgw, x0, x2, x3, y2, y3⟩ := Box.out wo hA.at_.old
    clear hNp
    by_cases hlt : p < mn
    · have hpi : (p : Int) < (mn : Int) := by omega
      clear hA hgw x0 x3 y2 y3
      go_wp2_with fail
      clear x2
      go_loopw [10] (fun v10 wq => ∃ (q N' : Nat) (aN : Option Addr) (cN : Nat) (aM : Option Addr) (cM : Nat) (mvs : List (Value × List Int)), v10 = .int .i64 q ∧ q ≤ mk ∧ IsN N' (p * mk + q) ∧ MxAt d g t (w.heap.size + 1 + 1 + 1) l s0 W1 N' wq aN cN aM cM mvs []) (fun v _ => mk - (intOf v).toNat)
      case atStart => exact ⟨0, N, aN, cN, aM, cM, mvs, rfl, by omega, HNp.out, A.out⟩
      case round =>
        clear A HNp
        rename World => wq
        obtain ⟨q, N', aN', cN', aM', cM', mvs', rfl, hq, hNq, hA⟩ := hrel
        have A : Hid (MxAt d g t (w.heap.size + 1 + 1 + 1) l s0 W1 N' wq aN' cN' aM' cM' mvs' []) := hA
        have HNq : Hid (IsN N' (p * mk + q)) := hNq
        clear hNq
        by_cases hql : q < mk
        · have hqi : (q : Int) < (mk : Int) := by omega
          have hNl : N' < d.R.length * g.R.length := by rw [HdR.out, HgR.out, show N' = p * mk + q from HNq.out]; exact cod_lt hlt hql
          have hN3 : N' ≤ 3000 := by rw [HdR.out, HgR.out, HN9.out] at hNl; omega
          have HNl : Hid (N' < d.R.length * g.R.length) := hNl
          clear hA hNl
          go_wp2_with fail
          go_loopw [11, 12] (fun v11 v12 wz => ∃ (x : Nat) (ag : Option Addr) (cg : Nat), v11 = .slice ag x cg ∧ v12 = .int .i64 x ∧ x ≤ l ∧ MxAt d g t (w.heap.size + 1 + 1 + 1) l s0 W1 N' wz aN' cN' aM' cM' mvs' [(3, .slice ag x cg, vals (mxRow d g N' x))]) (fun _ v _ => l - (intOf v).toNat)
          case atStart => exact ⟨0, none, 0, rfl, rfl, by omega, A.out.bare⟩
          case round =>
            clear A
            obtain ⟨x, ag, cg, rfl, rfl, hx, hA⟩ := hrel
            obtain ⟨hgw, x0, x2, x3, y2, y3⟩ := Box.out wr hA.at_.old
            by_cases hxl : x < l
            · have hxi : (x : Int) < (l : Int) := by omega
              obtain ⟨hr1, _, _⟩ := HRa.out wr p hgw hlt
              obtain ⟨bx, ox, cx, r1, r2⟩ := hr1 x hxl
              obtain ⟨hr2, _, _⟩ := HRe.out wr q hgw hql
              obtain ⟨by_, oy, cy, r3, r4⟩ := hr2 x hxl
              obtain ⟨e1, l1, l2⟩ := HLt.out p q x hlt hql hxl
              obtain ⟨g9, c9, w9, hrun0, hA9⟩ := (hA.kept (grown_drew (grown_refl _ _))).putI (H := wr.heap.size) rfl (by omega)
              rw [HgR.out, show N' = p * mk + q from HNq.out, e1] at hrun0
              obtain ⟨v, hv⟩ : ∃ v, Dfa.nx d p x * mk + Dfa.nx g q x = v := ⟨_, rfl⟩
              obtain ⟨u, hu⟩ : ∃ u, Dfa.nx d p x * mk = u := ⟨_, rfl⟩
              rw [hv] at hrun0
              rw [hu] at hv
              have hvl : v < N9 := by rw [← hv, ← hu, ← HN9.out]; exact cod_lt l1 l2
              generalize Dfa.nx d p x = z1 at *
              generalize Dfa.nx g q x = z2 at *
              have w1 : IntKind.i64.wrap ((z1 : Int) * (mk : Int)) = (u : Int) := by rw [show (z1 : Int) * (mk : Int) = (u : Int) by rw [← hu]; simp, IntKind.wrap_i64]; omega
              have w2 : IntKind.i64.wrap ((u : Int) + (z2 : Int)) = (v : Int) := by rw [show (u : Int) + (z2 : Int) = (v : Int) by rw [← hv]; simp, IntKind.wrap_i64]; omega
              have hrun : (AppS #[23, 23] 23 #[.slice ag x cg, .slice (some ⟨wr.heap.size, 0, none⟩) 1 1]).run Try.prog (wr.alloc (.cells #[.int .i64 (v : Int)] 3)).drew = .ok (.slice (some ⟨g9, 0, none⟩) (x + 1) c9) w9 := hrun0
              have A9 : Hid _ := hA9
              clear hA hA9 hgw hr1 hr2 e1 hv hu hrun0 l1 l2 hvl
              go_wp2_with fail
              go_region
              all_goals
                go_wp2_with fail
                go_roundw
                case rel => exact ⟨x + 1, _, c9, rfl, by go_num, by omega, A9.out⟩
                case measure => simp [intOf]; omega
            · have hxi : ¬ (x : Int) < (l : Int) := by omega
              have hxe : x = l := by omega
              subst hxe
              obtain ⟨g1, rfl, g8, c8, w8, run8, p8, z8, hA8⟩ := hA.putR rfl hl1 HNl.out (by omega)
              have o2 := hA.at_.box.2.2.1
              obtain ⟨W8, hW8⟩ : ∃ W8, W8 = w8.setCell ⟨w.heap.size + 1 + 1 + 1, 2, none⟩ (.slice (some ⟨g8, 0, none⟩) (N' + 1) c8) := ⟨_, rfl⟩
              have HW8 : Hid (W8 = _) := hW8
              rw [← hW8] at hA8
              obtain ⟨hgw8, _, _, x3', _, y3'⟩ := Box.out W8 hA8.at_.old
              obtain ⟨_, m1, hm1⟩ := HRa.out W8 p hgw8 hlt
              obtain ⟨_, m2, hm2⟩ := HRe.out W8 q hgw8 hql
              have o3 := hA8.box
              have o3' := fun ob => (grown_alloc W8 ob).cell o3 (by simp)
              have A8 : Hid _ := hA8
              have HB : Hid (bitOf t (d.M.getD (pxx g.R.length N') 0) (g.M.getD (pyy g.R.length N') 0) = bitOf t (M.getD p 0) (M'.getD q 0)) := by
                show _ = _
                rw [HgR.out, show N' = p * mk + q from HNq.out, pxx_code hql, pyy_code hql, HdM.out, HgM.out]
              generalize M.getD p 0 = v1 at *
              generalize M'.getD q 0 = v2 at *
              clear hA hA8 hgw hgw8 hW8 x2 y2
              rcases hm1 with rfl | rfl <;> rcases hm2 with rfl | rfl
              · obtain ⟨g9, c9, w9, hrun0, p9, z9, hA9⟩ := (A8.out.kept (grown_drew (grown_drew (grown_refl _ _)))).putM (H := W8.heap.size) rfl HNl.out (by omega) (x := bits BinOp.and IntKind.i64 t 1) (by rw [HB.out]; simp [bitOf])
                have hrun : (AppS #[23, 23] 23 #[.slice aM' N' cM', .slice (some ⟨W8.heap.size, 0, none⟩) 1 1]).run Try.prog (W8.alloc (.cells #[.int .i64 (bits BinOp.and IntKind.i64 t 1)] 3)).drew.drew = .ok (.slice (some ⟨g9, 0, none⟩) (N' + 1) c9) w9 := hrun0
                have A9 : Hid _ := hA9
                have HN9' : Hid (IsN (N' + 1) (p * mk + (q + 1))) := by show N' + 1 = p * mk + (q + 1); rw [show N' = p * mk + q from HNq.out]; omega
                clear hrun0 hA9
                go_wp2_with fail
                rw [← HW8.out]
                clear run8 p8 z8 o2
                go_region
                all_goals
                  go_wp2_with fail
                  go_region
                  all_goals
                    go_wp2_with fail
                    go_roundw
                    case rel => exact ⟨q + 1, N' + 1, _, _, _, _, _, by go_num, by omega, HN9'.out, A9.out⟩
                    case measure => simp [intOf]; omega
              · obtain ⟨g9, c9, w9, hrun0, p9, z9, hA9⟩ := (A8.out.kept (grown_drew (grown_drew (grown_refl _ _)))).putM (H := W8.heap.size) rfl HNl.out (by omega) (x := bits BinOp.and IntKind.i64 (t / 2) 1) (by rw [HB.out]; simp [bitOf])
                have hrun : (AppS #[23, 23] 23 #[.slice aM' N' cM', .slice (some ⟨W8.heap.size, 0, none⟩) 1 1]).run Try.prog (W8.alloc (.cells #[.int .i64 (bits BinOp.and IntKind.i64 (t / 2) 1)] 3)).drew.drew = .ok (.slice (some ⟨g9, 0, none⟩) (N' + 1) c9) w9 := hrun0
                have A9 : Hid _ := hA9
                have HN9' : Hid (IsN (N' + 1) (p * mk + (q + 1))) := by show N' + 1 = p * mk + (q + 1); rw [show N' = p * mk + q from HNq.out]; omega
                clear hrun0 hA9
                go_wp2_with fail
                rw [← HW8.out]
                clear run8 p8 z8 o2
                go_region
                all_goals
                  go_wp2_with fail
                  go_region
                  all_goals
                    go_wp2_with fail
                    go_roundw
                    case rel => exact ⟨q + 1, N' + 1, _, _, _, _, _, by go_num, by omega, HN9'.out, A9.out⟩
                    case measure => simp [intOf]; omega
              · obtain ⟨g9, c9, w9, hrun0, p9, z9, hA9⟩ := (A8.out.kept (grown_drew (grown_drew (grown_refl _ _)))).putM (H := W8.heap.size) rfl HNl.out (by omega) (x := bits BinOp.and IntKind.i64 (t / 4) 1) (by rw [HB.out]; simp [bitOf])
                have hrun : (AppS #[23, 23] 23 #[.slice aM' N' cM', .slice (some ⟨W8.heap.size, 0, none⟩) 1 1]).run Try.prog (W8.alloc (.cells #[.int .i64 (bits BinOp.and IntKind.i64 (t / 4) 1)] 3)).drew.drew = .ok (.slice (some ⟨g9, 0, none⟩) (N' + 1) c9) w9 := hrun0
                have A9 : Hid _ := hA9
                have HN9' : Hid (IsN (N' + 1) (p * mk + (q + 1))) := by show N' + 1 = p * mk + (q + 1); rw [show N' = p * mk + q from HNq.out]; omega
                clear hrun0 hA9
                go_wp2_with fail
                rw [← HW8.out]
                clear run8 p8 z8 o2
                go_region
                all_goals
                  go_wp2_with fail
                  go_region
                  all_goals
                    go_wp2_with fail
                    go_roundw
                    case rel => exact ⟨q + 1, N' + 1, _, _, _, _, _, by go_num, by omega, HN9'.out, A9.out⟩
                    case measure => simp [intOf]; omega
              · obtain ⟨g9, c9, w9, hrun0, p9, z9, hA9⟩ := (A8.out.kept (grown_drew (grown_drew (grown_refl _ _)))).putM (H := W8.heap.size) rfl HNl.out (by omega) (x := bits BinOp.and IntKind.i64 (t / 8) 1) (by rw [HB.out]; simp [bitOf])
                have hrun : (AppS #[23, 23] 23 #[.slice aM' N' cM', .slice (some ⟨W8.heap.size, 0, none⟩) 1 1]).run Try.prog (W8.alloc (.cells #[.int .i64 (bits BinOp.and IntKind.i64 (t / 8) 1)] 3)).drew.drew = .ok (.slice (some ⟨g9, 0, none⟩) (N' + 1) c9) w9 := hrun0
                have A9 : Hid _ := hA9
                have HN9' : Hid (IsN (N' + 1) (p * mk + (q + 1))) := by show N' + 1 = p * mk + (q + 1); rw [show N' = p * mk + q from HNq.out]; omega
                clear hrun0 hA9
                go_wp2_with fail
                rw [← HW8.out]
                clear run8 p8 z8 o2
                go_region
                all_goals
                  go_wp2_with fail
                  go_region
                  all_goals
                    go_wp2_with fail
                    go_roundw
                    case rel => exact ⟨q + 1, N' + 1, _, _, _, _, _, by go_num, by omega, HN9'.out, A9.out⟩
                    case measure => simp [intOf]; omega
        · have hqi : ¬ (q : Int) < (mk : Int) := by omega
          have hqe : q = mk := by omega
          subst hqe
          have HN2 : Hid (IsN N' ((p + 1) * q)) := by show N' = (p + 1) * q; rw [Nat.add_mul, Nat.one_mul]; exact HNq.out
          clear hA
          go_wp2_with fail
          go_roundw
          case rel => exact ⟨p + 1, N', aN', cN', aM', cM', mvs', by go_num, by omega, HN2.out, A.out⟩
          case measure => simp [intOf]; omega
    · have hpi : ¬ (p : Int) < (mn : Int) := by omega
      have hpe : p = mn := by omega
      subst hpe
      have hNe : N = N9 := by have := HNp.out; unfold IsN at this; rw [this]; exact HN9.out
      subst hNe
      have D9 := hA.whole (by rw [HdR.out, HgR.out]; exact HN9.out.symm) hN hl4
      obtain ⟨o0, o1, o2, o3, _⟩ := hA.at_.box
      have HL9 := HLs.out wo aN cN aM cM D9
      have B9 : Hid (wo.heap[w.heap.size + 1 + 1]? = some (.cells #[.int .i64 0, .int .i64 0, .slice none 0 0, .slice none 0 0] 25 (0, 0))) := HZ1.out wo hA.at_.old
      have G9 : Hid (w.grownBy wo none) := hgw
      have S9 : Hid (w.heap.size + 1 + 1 + 1 ≤ wo.heap.size) := by show _ ≤ _; rw [← HS1.out]; exact hA.at_.old.size
      have HL : Hid (Calls Try.prog 15 #[.agg #[.int .i64 l, .int .i64 (s0 : Int), .slice aN N cN, .slice aM N cM]] wo (LeastPost (nx2 d g mk) (mk2 t d g mk) N l s0 wo)) := HL9
      clear hA D9 HL9 hgw A HLs HLt HRa HRe x3 y2 y3
      go_wp2_with fail
      refine HL.out.mono ?_
      rintro E w6 ⟨aR6, cR6, aM6, cM6, rs6, M6, rfl, hlo, hn6, hm6, hr6, ho6, hg6⟩
      have K6 : w6.heap[w.heap.size + 1 + 1]? = some (.cells #[.int .i64 0, .int .i64 0, .slice none 0 0, .slice none 0 0] 25 (0, 0)) := (hg6.block _ (by have := S9.out; omega) (by simp)).trans B9.out
      obtain ⟨r0, r1, r2, r3, rz⟩ := block_cells K6
      have rz0 := rz 0
      have rz1 := rz 1
      have rz2 := rz 2
      have rz3 := rz 3
      obtain ⟨W9, hW9, hg9, q0, q1, q2, q3⟩ := det_store K6 (.int .i64 (l : Int)) (.int .i64 0) (.slice aR6 rs6.length cR6) (.slice aM6 M6.length cM6)
      have Fin : Hid (LeastPost (nx2 d g mk) (mk2 t d g mk) N l s0 w (.returned (.agg #[.int .i64 l, .int .i64 0, .slice aR6 rs6.length cR6, .slice aM6 M6.length cM6])) W9) :=
        ⟨aR6, cR6, aM6, cM6, rs6, M6, rfl, hlo, hn6, hm6, hr6, (ho6.below hg9 (by have := S9.out; omega)).base (by have := S9.out; omega), grown_new (grown_trans G9.out hg6) hg9 (by omega)⟩
      clear hlo hn6 hm6 hr6 ho6 hg6 hg9 rz K6 B9 HL
      generalize rs6.length = nr at *
      generalize M6.length = nm at *
      go_wp2_with fail
      rw [← hW9]
      exact bodyPost_ret (v := .agg #[.int .i64 l, .int .i64 0, .slice aR6 nr cR6, .slice aM6 nm cM6]) (by simp [results, Try.results21, go_sem, q0, q1, q2, q3]) rfl Fin.out

end Go.Proofs.Ytofjboelplknhaa
