/- What the reference's Grows lays down: marks, moves, which places are looked at. -/
import Derived.Test.YtnlkdihfoekjmaaGwGrE
import Derived.Test.YtnlkdihfoekjmaaGOdd
namespace Go.Proofs.Ytnlkdihfoekjmaa
open Go.RowKit
set_option linter.unusedVariables false
set_option linter.unusedSimpArgs false

structure GsB (w0 : World) (B gi n k : Nat) (um un : Value) (mk : List Int) (rs : List (Value × List Nat)) (w : World) : Prop where
  own : Owns B w ((3, um, vals mk) :: (23, un, rs.map (·.1)) :: gRows rs)
  inn : BRow w gi n n (fun q => decide (q < k))
  gr : w0.grownBy w none
  l1 : gi < B
  l2 : w0.heap.size ≤ gi
  l3 : B ≤ w.heap.size
section
variable {w0 w w' : World} {B gi n k : Nat} {um un : Value} {mk : List Int} {rs : List (Value × List Nat)}
theorem GsB.kept (h : GsB w0 B gi n k um un mk rs w) (hg : w.grownBy w' none) : GsB w0 B gi n k um un mk rs w' := ⟨h.own.kept hg, h.inn.kept hg, grown_trans h.gr hg, h.l1, h.l2, Nat.le_trans h.l3 hg.size⟩
theorem GsB.pushM (h : GsB w0 B gi n k um un mk rs w) {W : World} {x : Int} {kk : Nat} (hg : w.grownBy W none) (hk : B ≤ kk) (hs : W.heap.size = kk + 1) (hN : W.cell? ⟨kk, 0, none⟩ = some (.int .i64 x)) (hl : mk.length ≤ 1000) :
    ∃ g' cap w5, (AppS #[23, 23] 23 #[um, .slice (some ⟨kk, 0, none⟩) 1 1]).run Try.prog W = .ok (.slice (some ⟨g', 0, none⟩) (mk.length + 1) cap) w5 ∧ GsB w0 B gi n k (.slice (some ⟨g', 0, none⟩) (mk.length + 1) cap) un (mk ++ [x]) rs w5 := by
  have hK := h.kept hg
  have hr := hK.own.row
  rw [vals_len] at hr
  obtain ⟨g', cap, w5, h1, h2, h3, h4⟩ := run_push W B kk mk.length um mk x hr hl rfl hs hk hN
  have l1 := h.l1
  have l2 := h.l2
  have hb : ∀ b, um.ownBlock = some b → B ≤ b := fun b hb => (hK.own.row.lt b hb).1
  have o1 := hK.own.append (news := [.int .i64 x]) h2 (by rw [vals_len]; simp) h3 h4 hs
  rw [vals_snoc] at o1
  exact ⟨g', cap, w5, h1, o1, hK.inn.grownO h3 (fun b e => by have := hb b e; omega), hK.own.frame (by omega) hK.gr h3, l1, l2, Nat.le_trans hK.l3 h3.size⟩
theorem GsB.pushN (h : GsB w0 B gi n k um un mk rs w) {W : World} {v : Value} {l : List Nat} {kk : Nat} (hg : w.grownBy W none) (hO : Owns B W ((3, v, nvals l) :: (3, um, vals mk) :: (23, un, rs.map (·.1)) :: gRows rs)) (hk : B ≤ kk) (hs : W.heap.size = kk + 1) (hN : W.cell? ⟨kk, 0, none⟩ = some v) (hl : rs.length ≤ 1000) :
    ∃ g' cap w5, (AppS #[49, 49] 49 #[un, .slice (some ⟨kk, 0, none⟩) 1 1]).run Try.prog W = .ok (.slice (some ⟨g', 0, none⟩) (rs.length + 1) cap) w5 ∧ GsB w0 B gi n k um (.slice (some ⟨g', 0, none⟩) (rs.length + 1) cap) mk (rs ++ [(v, l)]) w5 := by
  obtain ⟨_, a, c, ev⟩ := hO.head
  have hP : Owns B W ((23, un, rs.map (·.1)) :: (3, um, vals mk) :: (gRows rs ++ [(3, v, nvals l)])) := hO.perm (by
    have e : (3, v, nvals l) :: (3, um, vals mk) :: (23, un, rs.map (·.1)) :: gRows rs = [(3, v, nvals l)] ++ ((3, um, vals mk) :: (23, un, rs.map (·.1)) :: gRows rs) := rfl
    rw [e]
    refine List.perm_append_comm.trans ?_
    exact List.Perm.swap _ _ _)
  have hr := hP.row
  have hlen : (rs.map (·.1)).length = rs.length := by simp
  rw [hlen] at hr
  obtain ⟨g', cap, w5, h1, h2, h3, h4⟩ := run_pushS W B kk rs.length un (rs.map (·.1)) v ⟨a, _, c, ev⟩ hr hl (by simp) hs hk hN
  have l1 := h.l1
  have l2 := h.l2
  have hb : ∀ b, un.ownBlock = some b → B ≤ b := fun b hb => (hP.row.lt b hb).1
  have o1 := hP.append (news := [v]) h2 (by simp) h3 h4 hs
  have hK := h.kept hg
  refine ⟨g', cap, w5, h1, ?_, hK.inn.grownO h3 (fun b e => by have := hb b e; omega), hP.frame (by omega) hK.gr h3, l1, l2, Nat.le_trans hK.l3 h3.size⟩
  have o2 := gat_2 o1
  have e1 : (rs ++ [(v, l)]).map (·.1) = rs.map (·.1) ++ [v] := by simp
  have e2 : gRows (rs ++ [(v, l)]) = gRows rs ++ [(3, v, nvals l)] := by simp [gRows]
  rw [e1, e2]
  exact o2
theorem GsB.put (h : GsB w0 B gi n k um un mk rs w) (hk : k < n) : GsB w0 B gi n (k + 1) um un mk rs (w.setCell ⟨gi, k, none⟩ (.bool true)) :=
  ⟨h.own.below (grown_set _ _ _) h.l1, h.inn.put hk (by simp) (fun j hj => by simp; omega), grown_new h.gr (grown_set _ _ _) h.l2, h.l1, h.l2, by simpa [World.setCell] using h.l3⟩
theorem GsB.odd (h : GsB w0 B gi n n um un mk rs w) (h1 : 1 ≤ n) {mf : Nat → Int} {nf : Nat → List Nat} (hm : mk = lstW mf n) (hr : rs.map (·.2) = lstW nf n) :
    ∃ bk ck bx cx xa xd, um = .slice (some ⟨bk, 0, none⟩) n ck ∧ un = .slice (some ⟨bx, 0, none⟩) n cx ∧ OddAt n mf nf (fun q => decide (q < n)) bk 0 bx 0 gi xa xd w := by
  have hrl : rs.length = n := by have := congrArg List.length hr; simpa [lstW] using this
  subst hm
  obtain ⟨g0, c0, e0, _⟩ := h.own.form (by rw [vals_len, lstW_len]; omega)
  have o2 := gat_2 h.own
  obtain ⟨g2, c2, e2, _⟩ := o2.form (by simp; omega)
  rw [vals_len, lstW_len] at e0
  simp only [List.length_map, hrl] at e2
  subst e0 e2
  refine ⟨g0, c0, g2, c2, fun p => match (rs.getD p (.slice none 0 0, [])).1 with | .slice a _ _ => a | _ => none, fun p => match (rs.getD p (.slice none 0 0, [])).1 with | .slice _ _ c => c | _ => 0, rfl, rfl, fun p hp => ?_, fun p hp => ?_, h.inn⟩
  · have := h.own.cell (i := p) (vals_get (by rw [lstW_len]; exact hp))
    rw [lstW_get _ _ hp] at this
    rw [Nat.zero_add]; exact this
  · have hpr : p < rs.length := by omega
    obtain ⟨v, xs, hvx⟩ : ∃ v xs, rs.getD p (.slice none 0 0, []) = (v, xs) := ⟨_, _, rfl⟩
    have hry : rs[p]? = some (v, xs) := by rw [← hvx]; simp [List.getD, hpr]
    have hxs : xs = nf p := by
      have h1 := congrArg (fun z => z[p]?) hr
      simpa [hry, lstW, hp] using h1
    have hvm : (3, v, nvals xs) ∈ gRows rs := List.mem_map.2 ⟨(v, xs), List.mem_of_getElem? hry, rfl⟩
    obtain ⟨_, av, cv, hav⟩ := h.own.1 _ (List.mem_cons_of_mem _ (List.mem_cons_of_mem _ hvm))
    simp only [nvals_len] at hav
    subst hav
    have hc := o2.cell (i := p) (u := .slice av xs.length cv) (by rw [List.getElem?_map, hry]; rfl)
    have hs : Owns B w [(3, Value.slice av xs.length cv, nvals xs)] := owns_sub h.own (List.singleton_sublist.2 (List.mem_cons_of_mem _ (List.mem_cons_of_mem _ hvm)))
    simp only [hvx]
    subst hxs
    refine ⟨?_, hs.nats.2⟩
    rw [Nat.zero_add]; exact hc
end
theorem pt_mono {E F : Nat → Nat → Prop} (h : ∀ a b, E a b → F a b) {p q : Nat} (hp : Pt E p q) : Pt F p q := by
  induction hp with
  | one e => exact .one (h _ _ e)
  | more _ e ih => exact .more ih (h _ _ e)

end Go.Proofs.Ytnlkdihfoekjmaa
