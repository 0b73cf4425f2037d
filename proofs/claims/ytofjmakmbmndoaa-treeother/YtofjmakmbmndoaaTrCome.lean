/- The sets that trees lead to: the program's comeTo. -/
import Derived.Test.YtofjmakmbmndoaaTrSetM
import Derived.Test.YtofjmakmbmndoaaTrSetW
import Derived.Laws.EntriesVeiled
import Derived.Deep.CutRange
import Derived.Deep.DeepCutAuto
namespace Go.Proofs.Ytofjmakmbmndoaa
open Go.RowKit Go.Maps
set_option linter.unusedVariables false

def ComePost (w0 : World) (bs : Nat) (X : List Nat) (E : Ending) (w' : World) : Prop := E = .returned (.tuple #[]) ∧ ∃ a c, ComeAt w0 w' bs a c X

attribute [local go_sem ↓] app_fold in
set_option maxHeartbeats 1600000 in
set_option maxRecDepth 100000 in
theorem come_any (w0 w : World) (bs : Nat) (a : Option Addr) (c : Nat) (X : List Nat) (s : Nat) (h : ComeAt w0 w bs a c X) (hs : s < 1000) (hX : X.length ≤ 1000) :
    Calls Try.prog 40 #[.int .i64 (s : Int), .pointer (some ⟨bs + 1 + 1, 0, none⟩), .pointer (some ⟨bs, 0, none⟩)] w (ComePost w0 bs (addS X s)) := by
  obtain ⟨x0, f0, x2⟩ := h.cells
  obtain ⟨l1, l2⟩ := h.num.look (y := s) (by omega)
  by_cases hm : s ∈ X
  · obtain ⟨cc, hl⟩ := l1 hm
    have Fin : Hid (ComePost w0 bs (addS X s) (.returned (.tuple #[])) w) := ⟨rfl, a, c, by unfold addS; rw [if_pos hm]; exact h⟩
    clear l1 l2 h hm
    go_enter Try.func40, Try.ntmps40
    go_wp2_with fail
    go_end0
    exact Fin.out
  · obtain ⟨cc, hl⟩ := l2 hm
    obtain ⟨w1, hr1, c1, c1', g, c', w2, hr2, c2, f2, hN⟩ := h.put hs hm hX
    have Fin : Hid (ComePost w0 bs (addS X s) (.returned (.tuple #[])) (w2.setCell ⟨bs, 0, none⟩ (.slice (some ⟨g, 0, none⟩) (X.length + 1) c'))) := ⟨rfl, _, c', by unfold addS; rw [if_neg hm]; exact hN⟩
    generalize addS X s = Y at *
    generalize X.length = n at *
    clear l1 l2 h hm hN
    go_enter Try.func40, Try.ntmps40
    go_wp2_with fail
    go_end0
    exact Fin.out

theorem comeAt_start (w : World) : ∃ W, W = ((w.alloc (.cells #[.slice none 0 0] 71)).alloc (.map #[] 0)).alloc (.cells #[.map (some (w.heap.size + 1))] 72) ∧ ComeAt w W w.heap.size none 0 [] := by
  refine ⟨_, rfl, ?_⟩
  have h1 := heap_alloc_new w (.cells #[.slice none 0 0] 71)
  have hn := NumS.start (w.alloc (.cells #[.slice none 0 0] 71))
  rw [World.size_alloc] at hn
  have h3 := heap_alloc_new ((w.alloc (.cells #[.slice none 0 0] 71)).alloc (.map #[] 0)) (.cells #[.map (some (w.heap.size + 1))] 72)
  rw [World.size_alloc, World.size_alloc] at h3
  have g23 := grown_alloc ((w.alloc (.cells #[.slice none 0 0] 71)).alloc (.map #[] 0)) (.cells #[.map (some (w.heap.size + 1))] 72)
  have g12 := grown_alloc (w.alloc (.cells #[.slice none 0 0] 71)) (.map #[] 0)
  have g01 := grown_alloc w (.cells #[.slice none 0 0] 71)
  refine ⟨?_, hn.kept g23 (by simp), h3, World.ownsRow_nil _ _ _ _, below_of_grown (grown_trans g01 (grown_trans g12 g23)), ?_⟩
  · exact ((grown_trans g12 g23).block _ (by rw [World.size_alloc]; omega) (by simp)).trans h1
  · rw [World.size_alloc, World.size_alloc, World.size_alloc]; omega

/-- What comeTo answers. -/
def ComeToPost (R : List RuleI) (L N : Nat) (w : World) (E : Ending) (w' : World) : Prop :=
  ∃ X a c bs, E = .returned (.tuple #[.slice a (List.length X) c, .map (some (bs + 1))]) ∧ Closed R L X ∧ AreS N X ∧ ComeAt w w' bs a c X ∧ bs = w.heap.size

structure CoI (R : List RuleI) (L N : Nat) (w wr : World) (X : List Nat) (a : Option Addr) (c : Nat) : Prop where
  at' : ComeAt w wr w.heap.size a c X
  are : AreS N X
theorem CoI.len {R : List RuleI} {L N : Nat} {w wr : World} {X : List Nat} {a : Option Addr} {c : Nat} (h : CoI R L N w wr X a c) (hN : N ≤ 6) : X.length ≤ 64 := h.are.len hN
theorem CoI.grown {R : List RuleI} {L N : Nat} {w wr : World} {X : List Nat} {a : Option Addr} {c : Nat} (h : CoI R L N w wr X a c) : w.grownBy wr none := grown_of_below h.at'.bel
theorem CoI.kept {R : List RuleI} {L N : Nat} {w wr w' : World} {X : List Nat} {a : Option Addr} {c : Nat} (h : CoI R L N w wr X a c) (hg : wr.grownBy w' none) : CoI R L N w w' X a c := ⟨h.at'.kept hg, h.are⟩
/-- What is looked at next. -/
def CutC (R : List RuleI) (L N : Nat) (w : World) (X : List Nat) (wc : World) : Prop := ∃ a c, CoI R L N w wc X a c

set_option maxHeartbeats 6400000 in
set_option maxRecDepth 100000 in
theorem comeTo_any (R : List RuleI) (Lz : Int) (L N b0 : Nat) (w : World) (hR : InRu R Lz N) (hN : N ≤ 6) (hL : L ≤ 4)
    (HNx : Hid (∀ (l s t : Nat) (W : World), w.grownBy W none → s < 4096 → t < 4096 → Calls Try.prog 32 #[.int .i64 (l : Int), .int .i64 (s : Int), .int .i64 (t : Int), .pointer (some ⟨b0, 0, none⟩)] W (Says (.int .i64 ((nxA R l s t : Nat) : Int)) W))) :
    Calls Try.prog 35 #[.int .i64 (L : Int), .func (.func 32) #[] #[.pointer (some ⟨b0, 0, none⟩)]] w (ComeToPost R L N w) := by
  have HA : Hid (∀ W, Calls Try.prog 34 #[.int .i64 (-1)] W fun e w' => e = .returned (.int .i64 1) ∧ w' = W) := fun W => alone_any (-1) 0 1 (by omega) (by omega) rfl W
  have HCm : Hid (∀ (W : World) (X : List Nat) (a : Option Addr) (c : Nat) (s : Nat), CoI R L N w W X a c → (s < 2 ^ (N + 1) ∧ s.testBit 0 = false) → Calls Try.prog 40 #[.int .i64 (s : Int), .pointer (some ⟨w.heap.size + 1 + 1, 0, none⟩), .pointer (some ⟨w.heap.size, 0, none⟩)] W fun E w' => E = .returned (.tuple #[]) ∧ CutC R L N w (addS X s) w') := fun W X a c s hC hs => by
    have h2 : 2 ^ (N + 1) ≤ 2 ^ 7 := Nat.pow_le_pow_right (by decide) (by omega)
    have h3 := hC.len hN
    refine (come_any w W w.heap.size a c X s hC.at' (by omega) (by omega)).mono fun E w' hp => ?_
    obtain ⟨h4, a', c', h5⟩ := hp
    exact ⟨h4, a', c', h5, hC.are.add hs⟩
  have HSt : Hid (∀ l s t : Nat, nxA R l s t < 2 ^ (N + 1) ∧ (nxA R l s t).testBit 0 = false) := fun l s t => ⟨nxS_lt hR (Nat.le_refl _), nxA_zero hR⟩
  have HIn : Hid (∀ X, AreS N X → ∀ i, i < X.length → X.getD i 0 < 4096) := fun X hX i hi => by
    have h2 : 2 ^ (N + 1) ≤ 2 ^ 7 := Nat.pow_le_pow_right (by decide) (by omega)
    have := (hX.lt (X.getD i 0) (by simp [List.getD, hi])).1
    omega
  obtain ⟨W0, hW0, h0⟩ := comeAt_start w
  have HW0 : Hid (W0 = _) := hW0
  have C0 : Hid (CoI R L N w W0 [] none 0) := ⟨h0, ⟨List.nodup_nil, fun s hs => by simp at hs⟩⟩
  have hmm := @run_makeMap Try.prog
  have hmf : ∀ (fn : Fn) (first cap : Array Value) (w : World), (Instr.makeFunc fn first cap).run Try.prog w = .ok (.func fn first cap) w := fun _ _ _ _ => rfl
  have hL4 : L ≤ 4 := hL
  clear hW0 h0 hR hL
  go_enter Try.func35, Try.ntmps35
  go_wp2_with fail
  rw [← HW0.out]
  clear hmm hmf
  go_loopw [16] (fun v wr => ∃ (l : Nat) (X : List Nat), v = .int .i64 (l : Int) ∧ l ≤ L ∧ (∀ l' : Nat, l' < l → nxA R l' 1 1 ∈ X) ∧ CutC R L N w X wr) (fun v _ => L - (intOf v).toNat)
  case atStart => exact ⟨0, [], rfl, by omega, fun l' hl' => by omega, none, 0, C0.out⟩
  case round =>
    obtain ⟨l, X, rfl, hl, hlf, a, c, hC⟩ := hrel
    have CC : Hid (CoI R L N w wr X a c) := hC
    have LF : Hid (∀ l' : Nat, l' < l → nxA R l' 1 1 ∈ X) := hlf
    clear hC hlf C0
    by_cases hlL : l < L
    · have ql : (l : Int) < (L : Int) := by omega
      have C1 : Hid (Calls Try.prog 32 #[.int .i64 (l : Int), .int .i64 1, .int .i64 1, .pointer (some ⟨b0, 0, none⟩)] wr (Says (.int .i64 ((nxA R l 1 1 : Nat) : Int)) wr)) := HNx.out l 1 1 wr CC.out.grown (by omega) (by omega)
      have C2 : Hid (∀ W, wr.grownBy W none → Calls Try.prog 40 #[.int .i64 ((nxA R l 1 1 : Nat) : Int), .pointer (some ⟨w.heap.size + 1 + 1, 0, none⟩), .pointer (some ⟨w.heap.size, 0, none⟩)] W fun E w' => E = .returned (.tuple #[]) ∧ CutC R L N w (addS X (nxA R l 1 1)) w') := fun W hW => HCm.out W X a c _ (CC.out.kept hW) (HSt.out l 1 1)
      have LN : Hid (∀ l' : Nat, l' < l + 1 → nxA R l' 1 1 ∈ addS X (nxA R l 1 1)) := fun l' hl' => by
        by_cases e : l' = l
        · subst e; exact addS_mem _ _
        · exact addS_sub (LF.out l' (by omega))
      generalize nxA R l 1 1 = s at *
      go_wp2_with fail
      refine (HA.out _).mono ?_
      rintro E w2 ⟨rfl, hw2⟩
      have hw2' := hw2.symm
      subst hw2'
      go_wp2_with fail
      refine (HA.out _).mono ?_
      rintro E w2 ⟨rfl, hw2⟩
      have hw2' := hw2.symm
      subst hw2'
      go_wp2_with fail
      refine C1.out.mono ?_
      rintro E w3 ⟨rfl, hg3⟩
      go_wp2_with fail
      refine (C2.out _ hg3).mono ?_
      rintro E w4 ⟨rfl, hC4⟩
      have CN : Hid (CutC R L N w (addS X s) w4) := hC4
      clear hC4 hg3
      go_wp2_with fail
      go_roundw
      case rel => exact ⟨l + 1, addS X s, by go_num, by omega, LN.out, CN.out⟩
      case measure => simp [intOf]; omega
    · have ql : ¬ (l : Int) < (L : Int) := by omega
      obtain rfl : l = L := by omega
      have D0 : Hid (DoneS R l X 0 0 0) := fun l' p q hl' hpq => by omega
      go_wp2_with fail
      go_loopw [10] (fun v wp => ∃ (i : Nat) (X : List Nat), v = .int .i64 (i : Int) ∧ i ≤ X.length ∧ (∀ l' : Nat, l' < l → nxA R l' 1 1 ∈ X) ∧ DoneS R l X i 0 0 ∧ CutC R l N w X wp) (fun v _ => 64 - (intOf v).toNat)
      case atStart => exact ⟨0, X, rfl, by omega, LF.out, D0.out, a, c, CC.out⟩
      case round =>
        rename World => wp
        clear D0 LF CC
        obtain ⟨i, X, rfl, hi, hlf, hdn, a, c, hC⟩ := hrel
        have CC : Hid (CoI R l N w wp X a c) := hC
        have LF : Hid (∀ l' : Nat, l' < l → nxA R l' 1 1 ∈ X) := hlf
        have DN : Hid (DoneS R l X i 0 0) := hdn
        have h64 := hC.len hN
        obtain ⟨x0, f0, x2⟩ := hC.at'.cells
        clear hC hlf hdn
        by_cases hiX : i < X.length
        · have qi : (i : Int) < (X.length : Int) := by omega
          have w1 : IntKind.i64.wrap ((i : Int) + 1) = ((i + 1 : Nat) : Int) := by rw [IntKind.wrap_i64]; omega
          go_wp2_with fail
          clear x0 f0 x2
          go_loopw [35] (fun v wp => ∃ (j : Nat) (X : List Nat), v = .int .i64 (j : Int) ∧ j ≤ i + 1 ∧ i < X.length ∧ (∀ l' : Nat, l' < l → nxA R l' 1 1 ∈ X) ∧ DoneS R l X i j 0 ∧ CutC R l N w X wp) (fun v _ => i + 1 - (intOf v).toNat)
          case atStart => exact ⟨0, X, rfl, by omega, hiX, LF.out, DN.out, a, c, CC.out⟩
          case round =>
            rename World => wp
            clear DN LF CC hi h64 qi hiX
            obtain ⟨j, X, rfl, hj, hiX, hlf, hdn, hC⟩ := hrel
            have CC : Hid (CutC R l N w X wp) := hC
            have LF : Hid (∀ l' : Nat, l' < l → nxA R l' 1 1 ∈ X) := hlf
            have DN : Hid (DoneS R l X i j 0) := hdn
            clear hC hlf hdn
            by_cases hji : j < i + 1
            · have qj : (j : Int) < (i : Int) + 1 := by omega
              go_wp2_with fail
              go_loopw [39] (fun v wp => ∃ (k : Nat) (X : List Nat), v = .int .i64 (k : Int) ∧ k ≤ l ∧ i < X.length ∧ (∀ l' : Nat, l' < l → nxA R l' 1 1 ∈ X) ∧ DoneS R l X i j k ∧ CutC R l N w X wp) (fun v _ => l - (intOf v).toNat)
              case atStart => exact ⟨0, X, rfl, by omega, hiX, LF.out, DN.out, CC.out⟩
              case round =>
                rename World => wp
                clear DN LF CC hiX
                obtain ⟨k, X, rfl, hk, hiX, hlf, hdn, a, c, hC⟩ := hrel
                have CC : Hid (CoI R l N w wp X a c) := hC
                have LF : Hid (∀ l' : Nat, l' < l → nxA R l' 1 1 ∈ X) := hlf
                have DN : Hid (DoneS R l X i j k) := hdn
                have h64 := hC.len hN
                clear hC hlf hdn
                by_cases hkl : k < l
                · have qk : (k : Int) < (l : Int) := by omega
                  obtain ⟨si, hsi⟩ : ∃ s, X.getD i 0 = s := ⟨_, rfl⟩
                  obtain ⟨sj, hsj⟩ : ∃ s, X.getD j 0 = s := ⟨_, rfl⟩
                  have bi : si < 4096 := by rw [← hsi]; exact HIn.out X CC.out.are i hiX
                  have bj : sj < 4096 := by rw [← hsj]; exact HIn.out X CC.out.are j (by omega)
                  have HSi : Hid (X.getD i 0 = si ∧ X.getD j 0 = sj) := ⟨hsi, hsj⟩
                  obtain ⟨x0, f0, x2⟩ := CC.out.at'.cells
                  obtain ⟨g, ea, ci⟩ := CC.out.at'.at (i := i) (by omega)
                  subst ea
                  obtain ⟨g', ea', cj⟩ := CC.out.at'.at (i := j) (by omega)
                  cases ea'
                  rw [hsi] at ci
                  rw [hsj] at cj
                  have qi : (i : Int) < (X.length : Int) := by omega
                  have qj2 : (j : Int) < (X.length : Int) := by omega
                  obtain ⟨s1, hs1⟩ : ∃ s, nxA R k si sj = s := ⟨_, rfl⟩
                  obtain ⟨s2, hs2⟩ : ∃ s, nxA R k sj si = s := ⟨_, rfl⟩
                  have C1 : Hid (∀ W, w.grownBy W none → Calls Try.prog 32 #[.int .i64 (k : Int), .int .i64 (si : Int), .int .i64 (sj : Int), .pointer (some ⟨b0, 0, none⟩)] W (Says (.int .i64 (s1 : Int)) W)) := fun W hW => hs1 ▸ HNx.out k si sj W hW bi bj
                  have C2 : Hid (∀ W, w.grownBy W none → Calls Try.prog 32 #[.int .i64 (k : Int), .int .i64 (sj : Int), .int .i64 (si : Int), .pointer (some ⟨b0, 0, none⟩)] W (Says (.int .i64 (s2 : Int)) W)) := fun W hW => hs2 ▸ HNx.out k sj si W hW bj bi
                  have D1 : Hid (∀ W, wp.grownBy W none → Calls Try.prog 40 #[.int .i64 (s1 : Int), .pointer (some ⟨w.heap.size + 1 + 1, 0, none⟩), .pointer (some ⟨w.heap.size, 0, none⟩)] W fun E w' => E = .returned (.tuple #[]) ∧ CutC R l N w (addS X s1) w') := fun W hW => HCm.out W X _ c _ (CC.out.kept hW) (hs1 ▸ HSt.out k si sj)
                  have D2 : Hid (∀ (W : World) (a : Option Addr) (c : Nat), CoI R l N w W (addS X s1) a c → Calls Try.prog 40 #[.int .i64 (s2 : Int), .pointer (some ⟨w.heap.size + 1 + 1, 0, none⟩), .pointer (some ⟨w.heap.size, 0, none⟩)] W fun E w' => E = .returned (.tuple #[]) ∧ CutC R l N w (addS (addS X s1) s2) w') := fun W a c hC => HCm.out W _ a c _ hC (hs2 ▸ HSt.out k sj si)
                  have DN2 : Hid (DoneS R l (addS (addS X s1) s2) i j (k + 1)) := by
                    have hl1 := addS_len X s1
                    have ei : (addS (addS X s1) s2).getD i 0 = si := by rw [addS_get (by omega), addS_get hiX, hsi]
                    have ej : (addS (addS X s1) s2).getD j 0 = sj := by rw [addS_get (by omega), addS_get (by omega), hsj]
                    refine ((DN.out.grow (s := s1) hiX (by omega)).grow (s := s2) (by omega) (by omega)).pair ?_ ?_
                    · rw [ei, ej, hs1]
                      exact addS_sub (addS_mem _ _)
                    · rw [ei, ej, hs2]
                      exact addS_mem _ _
                  have LF2 : Hid (∀ l' : Nat, l' < l → nxA R l' 1 1 ∈ addS (addS X s1) s2) := fun l' hl' => addS_sub (addS_sub (LF.out l' hl'))
                  have HL2 : Hid (i < (addS (addS X s1) s2).length) := by show _ < _; have := addS_len X s1; have := addS_len (addS X s1) s2; omega
                  have HX1 : Hid (i < (addS X s1).length ∧ (addS X s1).getD i 0 = si ∧ (addS X s1).getD j 0 = sj) := ⟨by have := addS_len X s1; omega, by rw [addS_get hiX]; exact hsi, by rw [addS_get (by omega)]; exact hsj⟩
                  have GP : Hid (w.grownBy wp none) := CC.out.grown
                  clear hsi hsj hs1 hs2 bi bj DN LF x2 f0
                  go_wp2_with fail
                  go_cut [53] (fun v53 wc => CutC R l N w (addS X s1) wc)
                  case first =>
                    go_region_with (first
                      | (go_at_call 32; refine (C1.out _ (by first | exact GP.out | exact grown_drew GP.out | exact grown_drewN GP.out _)).mono ?_; rintro E w3 ⟨rfl, hg3⟩; have G3 : Hid (wp.grownBy w3 none) := (by first | exact hg3 | exact grown_trans (grown_drew (grown_refl _ _)) hg3); clear hg3)
                      | (go_at_call 40; refine (D1.out _ G3.out).mono ?_; rintro E w4 ⟨rfl, hC4⟩; have CN : Hid (CutC R l N w (addS X s1) w4) := hC4; clear hC4))
                    all_goals
                      go_wp2_with fail
                      go_meet
                      case rel => exact CN.out
                  case rest =>
                    generalize addS X s1 = X1 at *
                    obtain ⟨a1, c1, hC1⟩ := hcut
                    have CC1 : Hid (CoI R l N w wc X1 a1 c1) := hC1
                    have G1 : Hid (w.grownBy wc none) := hC1.grown
                    have hX1 := HX1.out
                    have h641 := hC1.len hN
                    obtain ⟨x0, f0, x2⟩ := hC1.at'.cells
                    obtain ⟨g, ea, ci⟩ := hC1.at'.at (i := i) (by omega)
                    subst ea
                    obtain ⟨g', ea', cj⟩ := hC1.at'.at (i := j) (by omega)
                    cases ea'
                    rw [hX1.2.1] at ci
                    rw [hX1.2.2] at cj
                    have qi : (i : Int) < (X1.length : Int) := by omega
                    have qj2 : (j : Int) < (X1.length : Int) := by omega
                    have D3 : Hid (∀ W, wc.grownBy W none → Calls Try.prog 40 #[.int .i64 (s2 : Int), .pointer (some ⟨w.heap.size + 1 + 1, 0, none⟩), .pointer (some ⟨w.heap.size, 0, none⟩)] W fun E w' => E = .returned (.tuple #[]) ∧ CutC R l N w (addS X1 s2) w') := fun W hW => D2.out W _ c1 (CC1.out.kept hW)
                    clear hC1 hX1 x2 f0 D1 D2 C1
                    go_wp2_with fail
                    go_region_with (first
                      | (go_at_call 32; refine (C2.out _ (by first | exact G1.out | exact grown_drew G1.out | exact grown_drewN G1.out _)).mono ?_; rintro E w3 ⟨rfl, hg3⟩; have G3 : Hid (wc.grownBy w3 none) := (by first | exact hg3 | exact grown_trans (grown_drew (grown_refl _ _)) hg3); clear hg3)
                      | (go_at_call 40; refine (D3.out _ G3.out).mono ?_; rintro E w4 ⟨rfl, hC4⟩; have CN : Hid (CutC R l N w (addS X1 s2) w4) := hC4; clear hC4))
                    all_goals
                      go_wp2_with fail
                      go_roundw
                      case rel => exact ⟨k + 1, addS X1 s2, by go_num, by omega, HL2.out, LF2.out, DN2.out, CN.out⟩
                      case measure => simp [intOf]; omega
                · have qk : ¬ (k : Int) < (l : Int) := by omega
                  obtain rfl : k = l := by omega
                  have DN2 : Hid (DoneS R k X i (j + 1) 0) := DN.out.nextJ
                  go_wp2_with fail
                  go_roundw
                  case rel => exact ⟨j + 1, X, by go_num, by omega, hiX, LF.out, DN2.out, a, c, CC.out⟩
                  case measure => simp [intOf]; omega
            · have qj : ¬ (j : Int) < (i : Int) + 1 := by omega
              obtain rfl : j = i + 1 := by omega
              have DN2 : Hid (DoneS R l X (i + 1) 0 0) := DN.out.nextI
              have h64 : X.length ≤ 64 := by obtain ⟨a, c, hC⟩ := CC.out; exact hC.len hN
              go_wp2_with fail
              go_roundw
              case rel => exact ⟨i + 1, X, by go_num, by omega, LF.out, DN2.out, CC.out⟩
              case measure => simp [intOf]; omega
        · have qi : ¬ (i : Int) < (X.length : Int) := by omega
          obtain rfl : i = X.length := by omega
          have Fin : Hid (∀ nq, ComeToPost R l N w (.returned (.tuple #[.slice a X.length c, .map (some (w.heap.size + 1))])) (wp.drewN nq)) := fun nq => ⟨X, a, c, w.heap.size, rfl, DN.out.closed LF.out CC.out.are, CC.out.are, CC.out.at'.kept (grown_drewN (grown_refl _ _) nq), rfl⟩
          generalize X.length = n at *
          go_wp2_with fail
          go_quiet (fail)
          go_wp2_with fail
          go_ret2
          exact Fin.out _

end Go.Proofs.Ytofjmakmbmndoaa
