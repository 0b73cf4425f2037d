/- What is said to a word: the reference's Run. -/
import Derived.Test.YtodcmlcpicabaaaBas
import Derived.Deep.RegionHeld3
namespace Go.Proofs.Ytodcmlcpicabaaa
open Go.RowKit
set_option linter.unusedVariables false
set_option linter.unusedSimpArgs false

def RunRP (x : TrI) (us : List Nat) (w : World) (e : Ending) (w' : World) : Prop := ∃ a c, e = .returned (.slice a (saysT x us).length c) ∧ Ints w' a (saysT x us) ∧ w.grownBy w' none ∧ ∀ y, a = some y → w.heap.size ≤ y.block
/-- What holds behind k letters. -/
def RrSt (x : TrI) (us : List Nat) (W1 : World) (k : Nat) (v5 v6 : Value) (W : World) : Prop := ∃ a c, v5 = .slice a (x.F ++ ruT x x.S.toNat (us.take k)).length c ∧ v6 = .int .i64 ((goT x x.S.toNat (us.take k) : Nat) : Int) ∧ OwnW W1 W a c (x.F ++ ruT x x.S.toNat (us.take k))
theorem empty_row (w : World) : ∃ W, W = w.alloc (.cells #[] 3) ∧ w.grownBy W none ∧ OwnW w W (some ⟨w.heap.size, 0, none⟩) 0 [] := by
  refine ⟨_, rfl, grown_alloc _ _, ⟨?_, grown_alloc _ _⟩⟩
  exact ⟨rfl, .inr ⟨w.heap.size, 0, #[], rfl, Nat.le_refl _, heap_alloc_new w _, Nat.zero_le _, Nat.zero_le _, rfl, by simp [numsI]⟩⟩

attribute [local go_sem ↓] appY_fold in
set_option maxHeartbeats 3200000 in
set_option maxRecDepth 100000 in
theorem runR16_any (x : TrI) (I : Nat) (a3 a4 a5 a6 : Option Addr) (c3 c4 c5 c6 : Nat) (w : World) (h : TnAt w x a3 a4 a5 a6) (hr : ReadT x I) (hI : I ≤ 4) (hN : x.N.length ≤ 1000) (us : List Nat) (hu : ∀ l ∈ us, l < I) (hl : us.length ≤ 60) (au : Option Addr) (cu : Nat) (hi : Ints w au (nsT us)) :
    Calls Try.prog 13 #[tnV x.I x.O x.S a3 x.F.length c3 a4 x.N.length c4 a5 x.Y.length c5 a6 x.E.length c6, .slice au us.length cu] w (RunRP x us w) := by
  obtain ⟨W1, hW1, g1, s1, bx⟩ := box7_new w x.I x.O x.S a3 x.F.length c3 a4 x.N.length c4 a5 x.Y.length c5 a6 x.E.length c6
  obtain ⟨W2, hW2, g2, o2⟩ := empty_row W1
  have HW1 : Hid (W1 = _) := hW1
  have G1 : Hid (w.grownBy W1 none) := g1
  have HT : Hid (TnAt W1 x a3 a4 a5 a6) := h.grown g1
  have HX : Hid (∀ W, W1.grownBy W none → Box7 W w.heap.size x.I x.O x.S a3 x.F.length c3 a4 x.N.length c4 a5 x.Y.length c5 a6 x.E.length c6) := fun W hW => bx.grown hW
  have HI : Hid (Ints W1 au (nsT us)) := hi.grown g1
  have HR : Hid (ReadT x I) := hr
  have HU : Hid (∀ l ∈ us, l < I) := hu
  have HY : Hid (x.Y.length = x.N.length ∧ x.E.length = x.N.length) := ⟨hr.hy, hr.he⟩
  have hS := hr.st
  unfold StT at hS
  have hf8 := hr.f8
  obtain ⟨Po, hPo⟩ : ∃ P, P = RunRP x us w := ⟨_, rfl⟩
  have HP : Hid (∀ a c W, OwnW W1 W a c (saysT x us) → Po (.returned (.slice a (saysT x us).length c)) W) := fun a c W h1 => by
    rw [hPo]; exact ⟨a, c, rfl, h1.ints, grown_trans G1.out h1.gr, fun y hy => Nat.le_trans G1.out.size (h1.new y hy)⟩
  obtain ⟨aF, cF, WF, hrF, oF⟩ := o2.put (d := c3) (HT.out.first.grown g2) (by simp; omega)
  simp only [List.nil_append, List.length_nil] at hrF oF
  have HF : Hid (OwnW W1 WF aF cF x.F) := oF
  have x3 := bx.b3
  have y2 := (HX.out WF oF.gr).b2
  rw [hW1] at x3
  rw [s1, hW2, hW1] at hrF
  have S1 : Hid (W1.heap.size = w.heap.size + 1) := s1
  obtain ⟨q0, hq0⟩ : ∃ q0 : Nat, x.S = (q0 : Int) := ⟨x.S.toNat, by omega⟩
  have HQ : Hid (x.S.toNat = q0 ∧ q0 < x.N.length) := ⟨by omega, by omega⟩
  rw [hq0] at y2
  rw [← hPo]
  clear g1 s1 bx h hPo hi hr hu hS g2 o2 oF hq0 hW1 hW2
  go_enter Try.func13, Try.ntmps13
  go_wp2_with fail
  clear hrF x3 y2
  go_loopw [7, 5, 6] (fun v v5 v6 W => ∃ k : Nat, k ≤ us.length ∧ v = .int .i64 k ∧ RrSt x us W1 k v5 v6 W) (fun v _ _ _ => us.length - (intOf v).toNat)
  case atStart => exact ⟨0, Nat.zero_le _, rfl, aF, cF, by simp [ruT], by simp [goT, HQ.out.1], by simpa [ruT] using HF.out⟩
  case round =>
    obtain ⟨k, hk, rfl, a, c, rfl, rfl, ho⟩ := hrel
    have HO : Hid (OwnW W1 wr a c (x.F ++ ruT x x.S.toNat (us.take k))) := ho
    clear ho HF
    rw [HQ.out.1] at HO
    simp only [HQ.out.1]
    by_cases hlt : k < us.length
    · have ik : (k : Int) < (us.length : Int) := by omega
      have hp : goT x q0 (us.take k) < x.N.length := HR.out.go _ (fun l hl' => HU.out l (List.mem_of_mem_take hl')) HQ.out.2
      have hu : us.getD k 0 < I := HU.out _ (mem_getD hlt)
      have hlen := HR.out.len (us.take k) (fun l hl' => HU.out l (List.mem_of_mem_take hl')) HQ.out.2
      rw [List.length_take] at hlen
      have E1 : Hid _ := goT_take x q0 hlt
      have E2 : Hid _ := ruT_take x q0 hlt
      have E3 := nsT_getD hlt
      obtain ⟨zs, hzs⟩ : ∃ zs, x.F ++ ruT x q0 (us.take k) = zs := ⟨_, rfl⟩
      have hzl : zs.length ≤ 8 + 8 * us.length := by rw [← hzs, List.length_append]; omega
      obtain ⟨p, hpp⟩ : ∃ p, goT x q0 (us.take k) = p := ⟨_, rfl⟩
      obtain ⟨u, huu⟩ : ∃ u, us.getD k 0 = u := ⟨_, rfl⟩
      rw [hzs] at HO
      have E4 : Hid (x.F ++ ruT x q0 (us.take (k + 1)) = zs ++ syT x p u) := by
        show _ = _
        rw [E2.out, ← List.append_assoc, hzs, hpp, huu]
      rw [hpp] at hp E1
      rw [huu] at hu E1 E3
      simp only [hzs, hpp]
      clear hzs hpp huu E2
      obtain ⟨b5, o5, k5, b6, o6, k6, r6, rfl, h8, hs5⟩ := read_say HT.out HR.out hp hu
      obtain ⟨b4, o4, k4, b, o, rfl, hs4⟩ := read_next HT.out HR.out hp hu
      obtain ⟨bu, ou, rfl, hcu⟩ := HI.out.at (k := k) (by rw [nsT_len]; exact hlt)
      have cu0 := hcu k (by rw [nsT_len]; exact hlt)
      rw [E3] at cu0
      have od : OwnW W1 wr.drew a c zs := HO.out.grown (grown_drew (grown_refl _ _))
      obtain ⟨a1, c1, W', hrun, ho'⟩ := od.put (d := k6) (hs5 wr.drew od.gr).2.2 (by omega)
      have cu1 := HO.out.gr.cell cu0 (by simp)
      have cu2 := ho'.gr.cell cu0 (by simp)
      obtain ⟨c5a, c5b, _⟩ := hs5 wr HO.out.gr
      obtain ⟨c4a, c4b⟩ := hs4 W' ho'.gr
      have y5 := (HX.out wr HO.out.gr).b5
      have y4 := (HX.out W' ho'.gr).b4
      have ip : (p : Int) < (x.N.length : Int) := by omega
      have ip5 : (p : Int) < (x.Y.length : Int) := by rw [HY.out.1]; omega
      have iu : (u : Int) < (I : Int) := by omega
      have F : Hid (∀ W'', W'.grownBy W'' none → RrSt x us W1 (k + 1) (.slice a1 (zs ++ syT x p u).length c1) (.int .i64 ((nxT x p u : Nat) : Int)) W'') := fun W'' g => ⟨a1, c1, by rw [HQ.out.1, E4.out], by rw [HQ.out.1, E1.out], by rw [HQ.out.1, E4.out]; exact ho'.grown g⟩
      generalize (zs ++ syT x p u).length = nn at *
      generalize zs.length = nz at *
      clear hs5 hs4 ho' hcu HO E1 E3 E4 hlen h8 hp hu od cu0
      go_wp2_with fail
      go_region
      all_goals
        go_wp2_with fail
        go_quiet (fail)
        go_wp2_with fail
        go_roundw
        case rel => exact ⟨k + 1, by omega, by go_num, F.out _ (grown_drewN (grown_refl _ _) _)⟩
        case measure => simp [intOf]; omega
    · have ik : ¬ (k : Int) < (us.length : Int) := by omega
      have ek : us.take k = us := List.take_of_length_le (by omega)
      rw [ek] at HO
      simp only [ek]
      have hl2 : goT x q0 us < x.N.length := HR.out.go us HU.out HQ.out.2
      have hl1 := HR.out.len us HU.out HQ.out.2
      obtain ⟨b6, o6, k6, r6, rfl, h8, hs6⟩ := read_last HT.out HR.out hl2
      obtain ⟨c6a, i6⟩ := hs6 wr HO.out.gr
      obtain ⟨a1, c1, W', hrun, ho'⟩ := HO.out.put (d := k6) i6 (by rw [List.length_append]; omega)
      have y6 := (HX.out wr HO.out.gr).b6
      have ip : ((goT x q0 us : Nat) : Int) < (x.E.length : Int) := by rw [HY.out.2]; omega
      have F : Hid (Po (.returned (.slice a1 (x.F ++ ruT x q0 us ++ x.E.getD (goT x q0 us) []).length c1)) W') := by
        have h1 := HP.out a1 c1 W'
        unfold saysT at h1
        rw [HQ.out.1] at h1
        exact h1 ho'
      clear HO ek hs6 i6 ho' HP h8 hl1
      generalize (x.F ++ ruT x q0 us ++ x.E.getD (goT x q0 us) []).length = nn at *
      generalize (x.F ++ ruT x q0 us).length = nz at *
      generalize (x.E.getD (goT x q0 us) []).length = ne at *
      generalize goT x q0 us = p at *
      go_wp2_with fail
      first | exact F.out | (go_ret; exact F.out)

end Go.Proofs.Ytodcmlcpicabaaa
