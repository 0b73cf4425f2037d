/- stack.edges.automata: the steps are written down. -/
/- stack.Before. -/
import Derived.Test.YtcgkflddipflbaaSbS
import Derived.Test.YtcgkflddipflbaaSgWayE
namespace Go.Proofs.Ytcgkflddipflbaa
open Go.RowKit
set_option linter.unusedVariables false
set_option linter.unusedSimpArgs false
attribute [local go_sem ↓] app_fold

theorem StB.toC {w W1 W : World} {k3 b en bf : Nat} {E : Edg} {vT : Value} (h : StB W1 k3 b E en W vT (tE E 108) bf) (hw : w.grownBy W1 none) : ∃ aT cT, vT = .slice aT (tE E 108).length cT ∧ StC w k3 W.heap.size E en bf aT (tE E 108).length cT 0 W (.slice none 0 0) [] := by
  obtain ⟨aT, cT, hv⟩ := h.own.head.2
  have hv' : vT = .slice aT (tE E 108).length cT := hv
  subst hv'
  refine ⟨aT, cT, rfl, grown_trans hw h.gr, ?_, h.lt, Nat.le_refl _, ⟨_, h.box⟩, ?_, fun y hy => ?_, h.end_, h.far.1, (OwnsG.no _ _).empty 36 4, rfl, fun c hc => by omega⟩
  · have := hw.size; have := h.size; omega
  · rcases h.own.head.1.2 with ⟨_, e2⟩ | ⟨g, cap, cur, e1, _⟩
    · exact .inl (List.length_eq_zero_iff.1 e2)
    · have e3 : Value.slice aT (tE E 108).length cT = .slice (some ⟨g, 0, none⟩) (tE E 108).length cap := e1
      cases e3
      refine cells_steps fun j u hu => ?_
      rw [Nat.zero_add]
      exact h.own.cell rfl hu
  · subst hy
    rcases h.own.head.1.2 with ⟨e1, _⟩ | ⟨g, cap, cur, e1, _⟩
    · have e3 : Value.slice (some y) (tE E 108).length cT = .slice none 0 0 := e1
      cases e3
    · have e3 : Value.slice (some y) (tE E 108).length cT = .slice (some ⟨g, 0, none⟩) (tE E 108).length cap := e1
      cases e3
      have := h.own.head.1.lt g rfl
      simp only
      omega
/-- The automaton may be. -/
theorem good_autE (E : Edg) {c en : Nat} (hc : c < 3) (he : en < 6) : GoodA (autE E c en) := by
  refine ⟨by show (1 : Int) ≤ 3; omega, by show (3 : Int) ≤ 4; omega, by show (1 : Int) ≤ 6; omega, by show (6 : Int) ≤ 300; omega, ?_, inR_iff.2 ?_, inR_iff.2 ?_, inT_iff.2 ?_, rise_iff.2 ?_, rise_iff.2 ?_, riseT_iff.2 ?_⟩
  · have := tE_len E 108; show (tE E 108).length ≤ 40000; omega
  · intro z hz
    have e : z = (c : Int) := by simpa [autE] using hz
    subst e
    show 0 ≤ (c : Int) ∧ (c : Int) < 6
    omega
  · intro z hz
    have e : z = (en : Int) := by simpa [autE] using hz
    subst e
    show 0 ≤ (en : Int) ∧ (en : Int) < 6
    omega
  · intro t ht
    obtain ⟨j, hj, _, rfl⟩ := mem_tE.1 ht
    show (0 ≤ ((j / 18 : Nat) : Int) ∧ ((j / 18 : Nat) : Int) < 6) ∧ (0 ≤ ((j % 6 : Nat) : Int) ∧ ((j % 6 : Nat) : Int) < 6) ∧ (0 ≤ ((j / 6 % 3 : Nat) : Int) ∧ ((j / 6 % 3 : Nat) : Int) < 3)
    omega
  · exact List.pairwise_singleton _ _
  · exact List.pairwise_singleton _ _
  · show ((((List.range 108).filter (isK E)).map trK)).Pairwise Lex
    rw [List.pairwise_map]
    refine (List.Pairwise.filter _ List.pairwise_lt_range).imp fun {a b} hab => ?_
    show ((a / 18 : Nat) : Int) < ((b / 18 : Nat) : Int) ∨ ((a / 18 : Nat) : Int) = ((b / 18 : Nat) : Int) ∧ (((a / 6 % 3 : Nat) : Int) < ((b / 6 % 3 : Nat) : Int) ∨ ((a / 6 % 3 : Nat) : Int) = ((b / 6 % 3 : Nat) : Int) ∧ ((a % 6 : Nat) : Int) < ((b % 6 : Nat) : Int))
    omega
/-- What automata answers: of each control the least automaton of its stacks. -/
def AutsP (E : Edg) (en : Nat) (w : World) (e : Ending) (w' : World) : Prop :=
  ∃ (g cap : Nat) (ds : List (List Value)), e = .returned (.slice (some ⟨g, 0, none⟩) 3 cap) ∧ w.grownBy w' none ∧ (∀ i u, ds.flatten[i]? = some u → w'.cell? ⟨g, i, none⟩ = some u) ∧ ds.length = 3 ∧ ∀ c, c < 3 → ∃ lo hi, DetK lo hi w' E en c (ds.getD c [])

set_option maxHeartbeats 6400000 in
set_option maxRecDepth 100000 in
theorem autB_any (E : Edg) (b en : Nat) (w : World) (hE : EdgesAt w b E) (he : en < 6) :
    Calls Try.prog 20 #[.map (some b), .int .i64 (en : Int)] w (AutsP E en w) := by
  have HCs : Hid (∀ W f s t, EdgesAt W b E → f < 6 → s < 3 → t < 6 → Calls Try.prog 33 #[.map (some b), vE f s t] W (Says (.int .i64 (E f s t : Int)) W)) := fun W f s t h hf hs ht => cost_any b E f s t W h hf hs ht
  obtain ⟨W1, hW1⟩ : ∃ W1, W1 = w.alloc (.cells #[.int .i64 (en : Int)] 3) := ⟨_, rfl⟩
  obtain ⟨W2, hW2⟩ : ∃ W2, W2 = W1.alloc (.cells #[.int .i64 3, .int .i64 6, .slice none 0 0, .slice none 0 0, .slice (some ⟨w.heap.size, 0, none⟩) 1 1] 75) := ⟨_, rfl⟩
  have ST : Hid (StB W1 (w.heap.size + 1) b E en W2 (.slice none 0 0) [] w.heap.size) := by
    have s1 : W1.heap.size = w.heap.size + 1 := by rw [hW1]; simp
    have hb1 := heap_alloc_new w (.cells #[.int .i64 (en : Int)] 3)
    have hb2 := heap_alloc_new W1 (.cells #[.int .i64 3, .int .i64 6, .slice none 0 0, .slice none 0 0, .slice (some ⟨w.heap.size, 0, none⟩) 1 1] 75)
    have g1 : w.grownBy W1 none := by rw [hW1]; exact grown_alloc _ _
    have g2 : W1.grownBy W2 none := by rw [hW2]; exact grown_alloc _ _
    rw [← hW2, s1] at hb2
    refine ⟨g2, s1, ?_, hb2, (OwnsG.no _ _).empty 78 3, hE.kept (grown_trans g1 g2) (by simp), ?_, by omega, ?_⟩
    · exact (Array.getElem?_eq_some_iff.1 hb2).1
    · refine g2.cell ?_ (by simp)
      rw [hW1, cell_of_row _ _ 0 _ _ (0, 0) hb1]
      rfl
    · have := hE.block.1; omega
  have GW1 : Hid (w.grownBy W1 none) := by rw [hW1]; exact grown_alloc _ _
  rw [hW1] at hW2
  clear hW1 hE
  go_enter Try.func20, Try.ntmps20
  go_wp2_with fail
  rw [← hW2]
  clear hW2
  go_loopw [16] (fun v wr => ∃ (f : Nat) (vT : Value), f ≤ 6 ∧ v = .int .i64 f ∧ StB W1 (w.heap.size + 1) b E en wr vT (tE E (f * 18)) w.heap.size) (fun v _ => 6 - (intOf v).toNat)
  case atStart => exact ⟨0, _, by omega, rfl, ST.out⟩
  case round =>
    clear ST
    rename World => wr
    obtain ⟨f, vT, hf, rfl, hst⟩ := hrel
    have ST : Hid (StB W1 (w.heap.size + 1) b E en wr vT (tE E (f * 18)) w.heap.size) := hst
    clear hst
    by_cases hlt : f < 6
    · have hj1 : (f : Int) < 6 := by omega
      go_wp2_with fail
      go_loopw [19] (fun v ws => ∃ (s : Nat) (vT : Value), s ≤ 3 ∧ v = .int .i64 s ∧ StB W1 (w.heap.size + 1) b E en ws vT (tE E (f * 18 + s * 6)) w.heap.size) (fun v _ => 3 - (intOf v).toNat)
      case atStart => exact ⟨0, _, by omega, rfl, ST.out⟩
      case round =>
        clear ST
        rename World => ws
        obtain ⟨s, vT, hs, rfl, hst⟩ := hrel
        have ST : Hid (StB W1 (w.heap.size + 1) b E en ws vT (tE E (f * 18 + s * 6)) w.heap.size) := hst
        clear hst
        by_cases hls : s < 3
        · have hj2 : (s : Int) < 3 := by omega
          go_wp2_with fail
          go_loopw [22] (fun v wt => ∃ (t : Nat) (vT : Value), t ≤ 6 ∧ v = .int .i64 t ∧ StB W1 (w.heap.size + 1) b E en wt vT (tE E (f * 18 + s * 6 + t)) w.heap.size) (fun v _ => 6 - (intOf v).toNat)
          case atStart => exact ⟨0, _, by omega, rfl, ST.out⟩
          case round =>
            clear ST
            rename World => wt
            obtain ⟨t, vT, ht, rfl, hst⟩ := hrel
            have ST : Hid (StB W1 (w.heap.size + 1) b E en wt vT (tE E (f * 18 + s * 6 + t)) w.heap.size) := hst
            clear hst
            by_cases hlu : t < 6
            · have hj3 : (t : Int) < 6 := by omega
              go_wp2_with fail
              refine (HCs.out wt f s t ST.out.edges hlt hls hlu).mono ?_
              rintro E2 w5 ⟨rfl, hg5⟩
              have ST5 : Hid (StB W1 (w.heap.size + 1) b E en w5 vT (tE E (f * 18 + s * 6 + t)) w.heap.size) := ST.out.kept hg5
              clear ST hg5
              have ek : f * 18 + s * 6 + t + 1 = f * 18 + s * 6 + (t + 1) := by omega
              have eT : trK (f * 18 + s * 6 + t) = ((f : Int), (s : Int), (t : Int)) := by
                unfold trK
                have e1 : (f * 18 + s * 6 + t) / 18 = f := by omega
                have e2 : (f * 18 + s * 6 + t) / 6 % 3 = s := by omega
                have e3 : (f * 18 + s * 6 + t) % 6 = t := by omega
                rw [e1, e2, e3]
              have eI : isK E (f * 18 + s * 6 + t) = decide (E f s t < 2002) := by
                unfold isK
                have e1 : (f * 18 + s * 6 + t) / 18 = f := by omega
                have e2 : (f * 18 + s * 6 + t) / 6 % 3 = s := by omega
                have e3 : (f * 18 + s * 6 + t) % 6 = t := by omega
                rw [e1, e2, e3]
              have hsucc := tE_succ E (f * 18 + s * 6 + t)
              rw [ek, eI] at hsucc
              by_cases hE2 : E f s t < 2002
              · have d1 : decide ((E f s t : Int) < 2002) = true := decide_eq_true (by omega)
                rw [decide_eq_true hE2, if_pos rfl, eT] at hsucc
                have hlen : (tE E (f * 18 + s * 6 + t)).length ≤ 1000 := by have := tE_len E (f * 18 + s * 6 + t); omega
                obtain ⟨a7, c7, g7, p7, w7, hv7, hr7, c73, f73, st7⟩ := ST5.out.add hlen ((f : Int), (s : Int), (t : Int))
                subst hv7
                rw [← hsucc] at st7
                have STN : Hid (StB W1 (w.heap.size + 1) b E en (w7.setCell ⟨w.heap.size + 1, 3, none⟩ (.slice (some ⟨g7, 0, none⟩) ((tE E (f * 18 + s * 6 + t)).length + 1) p7)) (.slice (some ⟨g7, 0, none⟩) ((tE E (f * 18 + s * 6 + t)).length + 1) p7) (tE E (f * 18 + s * 6 + (t + 1))) w.heap.size) := st7
                have b0 := (boxB_cells ST5.out.box).2.2.2.1
                clear st7 hsucc ek eT eI hE2 hlen
                generalize (tE E (f * 18 + s * 6 + t)).length = nn at *
                generalize E f s t = ee at *
                go_wp2_with fail
                go_roundw
                case rel => exact ⟨t + 1, _, by omega, by go_num, STN.out⟩
                case measure => simp [intOf]; omega
              · have d1 : decide ((E f s t : Int) < 2002) = false := decide_eq_false (by omega)
                rw [decide_eq_false hE2, if_neg (by simp)] at hsucc
                have ST6 : Hid (StB W1 (w.heap.size + 1) b E en w5 vT (tE E (f * 18 + s * 6 + (t + 1))) w.heap.size) := by rw [hsucc]; exact ST5.out
                clear hsucc ek eT eI hE2
                generalize E f s t = ee at *
                go_wp2_with fail
                go_roundw
                case rel => exact ⟨t + 1, _, by omega, by go_num, ST6.out⟩
                case measure => simp [intOf]; omega
            · have hj3 : ¬ (t : Int) < 6 := by omega
              have e : t = 6 := by omega
              subst e
              have ST2 : Hid (StB W1 (w.heap.size + 1) b E en wt vT (tE E (f * 18 + (s + 1) * 6)) w.heap.size) := by
                have := ST.out
                rwa [show f * 18 + s * 6 + 6 = f * 18 + (s + 1) * 6 from by omega] at this
              clear ST
              go_wp2_with fail
              go_roundw
              case rel => exact ⟨s + 1, _, by omega, by go_num, ST2.out⟩
              case measure => simp [intOf]; omega
        · have hj2 : ¬ (s : Int) < 3 := by omega
          have e : s = 3 := by omega
          subst e
          have ST2 : Hid (StB W1 (w.heap.size + 1) b E en ws vT (tE E ((f + 1) * 18)) w.heap.size) := by
            have := ST.out
            rwa [show f * 18 + 3 * 6 = (f + 1) * 18 from by omega] at this
          clear ST
          go_wp2_with fail
          go_roundw
          case rel => exact ⟨f + 1, _, by omega, by go_num, ST2.out⟩
          case measure => simp [intOf]; omega
    · have hj1 : ¬ (f : Int) < 6 := by omega
      have e : f = 6 := by omega
      subst e
      obtain ⟨aT, cT, rfl, hC⟩ := StB.toC (w := w) (show StB W1 (w.heap.size + 1) b E en wr vT (tE E 108) w.heap.size from ST.out) GW1.out
      have SC : Hid (StC w (w.heap.size + 1) wr.heap.size E en w.heap.size aT (tE E 108).length cT 0 wr (.slice none 0 0) []) := hC
      obtain ⟨tb, htb⟩ : ∃ tb, wr.heap.size = tb := ⟨_, rfl⟩
      rw [htb] at SC
      clear ST hC htb HCs
      go_wp2_with fail
      go_loopw [44, 9] (fun v44 v9 wq => ∃ (n : Nat) (vO : Value) (cs : List (List Value)), n ≤ 3 ∧ v44 = .int .i64 n ∧ vO = v9 ∧ StC w (w.heap.size + 1) tb E en w.heap.size aT (tE E 108).length cT n wq vO cs) (fun v44 _ _ => 3 - (intOf v44).toNat)
      case atStart => exact ⟨0, _, [], by omega, rfl, rfl, SC.out⟩
      case round =>
        clear SC
        rename World => wq
        obtain ⟨n, vO, cs, hn, rfl, rfl, hst⟩ := hrel
        have SC : Hid (StC w (w.heap.size + 1) tb E en w.heap.size aT (tE E 108).length cT n wq vO cs) := hst
        clear hst
        by_cases hln : n < 3
        · have hj4 : (n : Int) < 3 := by omega
          obtain ⟨vS, hbx⟩ := (SC.out.kept (grown_alloc wq (.cells #[.int .i64 (n : Int)] 3))).box
          obtain ⟨_, _, b2, _, _, bf⟩ := boxB_cells hbx
          have bf2 := bf 2
          obtain ⟨SD, hnb⟩ := (SC.out.kept (grown_alloc wq (.cells #[.int .i64 (n : Int)] 3))).start (.slice (some ⟨wq.heap.size, 0, none⟩) 1 1)
          obtain ⟨V, hV⟩ : ∃ V, V = (wq.alloc (.cells #[.int .i64 (n : Int)] 3)).setCell ⟨w.heap.size + 1, 2, none⟩ (.slice (some ⟨wq.heap.size, 0, none⟩) 1 1) := ⟨_, rfl⟩
          rw [← hV] at SD hnb
          obtain ⟨y0, y1, y2, y3, y4, _⟩ := boxB_cells hnb
          clear bf hbx
          go_wp2_with fail
          rw [← hV]
          have hcs : Ints V (some ⟨wq.heap.size, 0, none⟩) [(n : Int)] := by
            refine .inr ⟨wq.heap.size, 0, rfl, fun i hi => ?_⟩
            have e : i = 0 := by simp at hi; omega
            subst e
            have hb1 := heap_alloc_new wq (.cells #[.int .i64 (n : Int)] 3)
            have hne : wq.heap.size ≠ w.heap.size + 1 := by have := SC.out.ktb; have := SC.out.tbW; omega
            rw [hV]
            refine (grown_set _ ⟨w.heap.size + 1, 2, none⟩ _).cell ?_ (by simp; omega)
            rw [Nat.zero_add, cell_of_row _ _ 0 _ _ (0, 0) hb1]
            rfl
          have hen : Ints V (some ⟨w.heap.size, 0, none⟩) [(en : Int)] := by
            refine .inr ⟨w.heap.size, 0, rfl, fun i hi => ?_⟩
            have e : i = 0 := by simp at hi; omega
            subst e
            exact SD.end_
          have hAu : AutAt V (autE E n en) (some ⟨wq.heap.size, 0, none⟩) aT (some ⟨w.heap.size, 0, none⟩) := ⟨hcs, SD.steps, hen, by unfold maxLen; simp [autE], by have := tE_len E 108; show (tE E 108).length ≤ maxLen; unfold maxLen; omega, by unfold maxLen; simp [autE]⟩
          have HMd : Hid (Calls Try.prog 34 #[.agg #[.int .i64 3, .int .i64 6, .slice (some ⟨wq.heap.size, 0, none⟩) 1 1, .slice aT (tE E 108).length cT, .slice (some ⟨w.heap.size, 0, none⟩) 1 1]] V (LeastGPost (dset (tE E 108)) (mset [(en : Int)]) 256 3 (setOf [(n : Int)]) V)) := madeE_good (autE E n en) 3 6 rfl rfl (by omega) (good_autE E hln he) (some ⟨wq.heap.size, 0, none⟩) aT (some ⟨w.heap.size, 0, none⟩) 1 cT 1 V hAu
          have SV : Hid (StC w (w.heap.size + 1) tb E en w.heap.size aT (tE E 108).length cT n V vO cs) := SD
          clear hcs hen hAu SD hnb hV y0 y1 y2 y3 y4 b2 bf2 SC
          refine HMd.out.mono ?_
          rintro E3 w6 hE3
          obtain ⟨aR, nR, cR, aM, nM, cM, rfl, hD6, hg6⟩ := DetK.new hE3
          have S6 : Hid (StC w (w.heap.size + 1) tb E en w.heap.size aT (tE E 108).length cT n w6 vO cs) := SV.out.kept hg6
          have gA : w6.grownBy (w6.alloc (.cells #[.int .i64 3, .int .i64 0, .slice aR nR cR, .slice aM nM cM] 36)) none := grown_alloc _ _
          obtain ⟨a9, c9, g9, p9, w9, hv9, hrun, st9⟩ := (S6.out.kept gA).add (by omega) (hD6.kept gA) SV.out.tbW (fun g hg => by
            have h1 := (SV.out.out.head.1.lt g hg).2
            exact .inl h1)
          subst hv9
          have S9 : Hid (StC w (w.heap.size + 1) tb E en w.heap.size aT (tE E 108).length cT (n + 1) w9 (.slice (some ⟨g9, 0, none⟩) (n + 1) p9) (cs ++ [[.int .i64 3, .int .i64 0, .slice aR nR cR, .slice aM nM cM]])) := st9
          rw [World.size_alloc] at hrun
          clear st9 hD6 hE3 hg6 gA HMd SV
          go_wp2_with fail
          go_roundw
          case rel => exact ⟨n + 1, _, _, by omega, by go_num, rfl, S9.out⟩
          case measure => simp [intOf]; omega
        · have hj4 : ¬ (n : Int) < 3 := by omega
          have e : n = 3 := by omega
          subst e
          obtain ⟨a9, c9, hv9⟩ := SC.out.out.head.2
          have hv9' : vO = .slice a9 3 c9 := hv9
          subst hv9'
          have Fin : Hid (AutsP E en w (.returned (.slice a9 3 c9)) wq) := by
            rcases SC.out.out.head.1.2 with ⟨_, e2⟩ | ⟨g, cap, cur, e1, _⟩
            · have e3 : (3 : Nat) = 0 := e2
              omega
            · have e3 : Value.slice a9 3 c9 = .slice (some ⟨g, 0, none⟩) 3 cap := e1
              cases e3
              exact ⟨g, c9, cs, rfl, SC.out.gr, fun i u hu => SC.out.out.cell rfl hu, SC.out.len, fun c hc => by
                obtain ⟨lo, hi, h1, _, _⟩ := SC.out.dets c hc
                exact ⟨lo, hi, h1⟩⟩
          clear SC
          go_wp2_with fail
          go_ret
          exact Fin.out

end Go.Proofs.Ytcgkflddipflbaa

namespace Go.Proofs.Ytcgkflddipflbaa
open Go.RowKit Go.Maps
set_option linter.unusedVariables false
set_option linter.unusedSimpArgs false

/-- A config in a box, and another one beside. -/
theorem bef_boxes (w : World) (g1 : Int) (vg : Value) : ∃ W, W = (w.alloc (.cells #[.int .i64 g1, vg] 25)).alloc (.cells #[.int .i64 g1, vg] 25) ∧ w.grownBy W none ∧ W.heap[w.heap.size]? = some (.cells #[.int .i64 g1, vg] 25 (0, 0)) ∧ W.heap[w.heap.size + 1]? = some (.cells #[.int .i64 g1, vg] 25 (0, 0)) := by
  have h0 := heap_alloc_new w (.cells #[.int .i64 g1, vg] 25)
  have h1 := heap_alloc_new (w.alloc (.cells #[.int .i64 g1, vg] 25)) (.cells #[.int .i64 g1, vg] 25)
  rw [show (w.alloc (.cells #[.int .i64 g1, vg] 25)).heap.size = w.heap.size + 1 by simp] at h1
  exact ⟨_, rfl, grown_trans (grown_alloc _ _) (grown_alloc _ _), ((grown_alloc _ _).block _ (by simp) (by simp)).trans h0, h1⟩
theorem one_cfg {W : World} {B : Nat} {gl : Cfg} {b' : Option Addr} {k' : Nat} (h : W.heap[B]? = some (.cells #[.int .i64 gl.1, .slice b' gl.2.length k'] 25 (0, 0))) (hg : Ints W b' gl.2) (hgm : gl.2.length ≤ maxLen) : CfgsAt W B [gl] := by
  intro i hi
  obtain rfl : i = 0 := by simp at hi; omega
  exact ⟨by rw [cell_of_row _ _ _ _ _ (0, 0) h]; rfl, b', k', by rw [cell_of_row _ _ _ _ _ (0, 0) h]; rfl, hg, hgm⟩

set_option maxHeartbeats 3200000 in
set_option maxRecDepth 100000 in
theorem before_bad (L : List Psh) (gl : Cfg) (a b' : Option Addr) (d k' : Nat) (w : World) (h : PushAt w a L) (hm : L.length ≤ maxLen) (hg : Ints w b' gl.2) (hgm : gl.2.length ≤ maxLen) (hy : allSk L [gl] ≠ 0) :
    Calls Try.prog 5 #[.slice a L.length d, cfgV gl.1 b' gl.2.length k'] w (Says (.tuple #[.slice none 0 0, .int .i64 (allSk L [gl])]) w) := by
  obtain ⟨W3, hW3, g3, h0, h1⟩ := bef_boxes w gl.1 (.slice b' gl.2.length k')
  have HK : Hid (Calls Try.prog 15 #[.slice a L.length d, .slice (some ⟨w.heap.size + 1, 0, none⟩) 1 1] W3 (Says (.int .i64 (allSk L [gl])) W3)) := checkAll_any a d (w.heap.size + 1) L [gl] W3 (h.grown g3) hm (one_cfg h1 (hg.grown g3) hgm) (by simp)
  have q0 : (w.alloc (.cells #[.int .i64 gl.1, .slice b' gl.2.length k'] 25)).cell? ⟨w.heap.size, 0, none⟩ = some (.int .i64 gl.1) := by rw [cell_of_row _ _ 0 _ _ (0, 0) (heap_alloc_new w _)]; rfl
  have q1 : (w.alloc (.cells #[.int .i64 gl.1, .slice b' gl.2.length k'] 25)).cell? ⟨w.heap.size, 1, none⟩ = some (.slice b' gl.2.length k') := by rw [cell_of_row _ _ 1 _ _ (0, 0) (heap_alloc_new w _)]; rfl
  have HW3 : Hid (W3 = _) := hW3
  have G3 : Hid (w.grownBy W3 none) := g3
  obtain ⟨y, hyy⟩ : ∃ y, allSk L [gl] = y := ⟨_, rfl⟩
  rw [hyy] at HK hy ⊢
  have e1 : (y != 0) = true := by simpa using hy
  clear h hm hg hgm hy hW3 g3 h0 h1 hyy
  go_enter Try.func5, Try.ntmps5
  go_wp2_with fail
  rw [← HW3.out]
  refine HK.out.mono ?_
  rintro E w2 ⟨rfl, hg2⟩
  have GF : Hid (w.grownBy w2 none) := grown_trans G3.out hg2
  clear hg2
  go_wp2_with fail
  exact bodyPost_ret (v := .tuple #[.slice none 0 0, .int .i64 y]) (by simp [results, Try.results5, go_sem]) rfl ⟨rfl, GF.out⟩

/-- The box of the goal stays. -/
abbrev KeepQ (P0 W : World) (b1 gN : Nat) (v : Value) : Prop := P0.grownBy W none ∧ W.cell? ⟨b1, 0, none⟩ = some (.int .i64 (gN : Int)) ∧ W.cell? ⟨b1, 1, none⟩ = some v
theorem KeepQ.call {P0 W W' : World} {b1 gN : Nat} {v : Value} (h : KeepQ P0 W b1 gN v) (hg : W.grownBy W' none) : KeepQ P0 W' b1 gN v := by
  obtain ⟨h0, h1, h2⟩ := h
  exact ⟨grown_trans h0 hg, hg.cell h1 (by simp), hg.cell h2 (by simp)⟩
theorem KeepQ.drew {P0 W : World} {b1 gN : Nat} {v : Value} (h : KeepQ P0 W b1 gN v) : KeepQ P0 W.drew b1 gN v := h.call (grown_drew (grown_refl _ _))
/-- What Before answers. -/
def BefPost (L : List Psh) (gN : Nat) (gz : List Int) (w : World) (e : Ending) (w' : World) : Prop :=
  ∃ (E : Edg) (g cap : Nat) (ds : List (List Value)), e = .returned (.tuple #[.slice (some ⟨g, 0, none⟩) 3 cap, .int .i64 0]) ∧ w.grownBy w' none ∧ Top E ∧ TowP L gN gz E ∧ (∀ i u, ds.flatten[i]? = some u → w'.cell? ⟨g, i, none⟩ = some u) ∧ ds.length = 3 ∧ ∀ c, c < 3 → ∃ lo hi, DetK lo hi w' E (behC gN gz.length) c (ds.getD c [])

set_option maxHeartbeats 6400000 in
set_option maxRecDepth 100000 in
theorem before_good (L : List Psh) (gN : Nat) (gz : List Int) (a b' : Option Addr) (d k' : Nat) (w : World) (h : PushAt w a L) (hm : L.length ≤ maxLen) (hg : Ints w b' gz) (hy : allSk L [((gN : Int), gz)] = 0) (hG : GoodSk L) (hgl : gz.length ≤ 20) (hgN : gN < 3) (hgz : OnesSk gz) :
    Calls Try.prog 5 #[.slice a L.length d, cfgV gN b' gz.length k'] w fun e w' => (3 < gz.length ∧ Says (.tuple #[.slice none 0 0, .int .i64 1]) w e w') ∨ (gz.length ≤ 3 ∧ BefPost L gN gz w e w') := by
  obtain ⟨W3, hW3, g3, h0, h1⟩ := bef_boxes w gN (.slice b' gz.length k')
  have HK : Hid (Calls Try.prog 15 #[.slice a L.length d, .slice (some ⟨w.heap.size + 1, 0, none⟩) 1 1] W3 (Says (.int .i64 0) W3)) := by
    have := checkAll_any a d (w.heap.size + 1) L [((gN : Int), gz)] W3 (h.grown g3) hm (one_cfg (gl := ((gN : Int), gz)) h1 (hg.grown g3) (by unfold maxLen; simp only; omega)) (by simp)
    rw [hy] at this
    exact this
  have q0 : (w.alloc (.cells #[.int .i64 (gN : Int), .slice b' gz.length k'] 25)).cell? ⟨w.heap.size, 0, none⟩ = some (.int .i64 (gN : Int)) := by rw [cell_of_row _ _ 0 _ _ (0, 0) (heap_alloc_new w _)]; rfl
  have q1 : (w.alloc (.cells #[.int .i64 (gN : Int), .slice b' gz.length k'] 25)).cell? ⟨w.heap.size, 1, none⟩ = some (.slice b' gz.length k') := by rw [cell_of_row _ _ 1 _ _ (0, 0) (heap_alloc_new w _)]; rfl
  have HW3 : Hid (W3 = _) := hW3
  have G3 : Hid (w.grownBy W3 none) := g3
  obtain ⟨b1, hb1⟩ : ∃ b1, w.heap.size = b1 := ⟨_, rfl⟩
  have S3 : Hid (CfgB W3 b1 gN (.slice b' gz.length k')) := by rw [hb1] at h0; exact h0
  have HP : Hid (PushAt w a L) := h
  have HGd : Hid (GoodSk L) := hG
  have HGz : Hid (Ints w b' gz) := hg
  have HS : Hid (OnesSk gz) := hgz
  rw [hb1] at q0 q1 HK
  clear h hg hG hgz hW3 g3 h0 h1 hy
  go_enter Try.func5, Try.ntmps5
  go_wp2_with fail
  rw [← HW3.out]
  clear HW3 q0 q1
  refine HK.out.mono ?_
  rintro E w2 ⟨rfl, hg2⟩
  have G2 : Hid (w.grownBy w2 none) := grown_trans G3.out hg2
  have S2 : Hid (CfgB w2 b1 gN (.slice b' gz.length k')) := S3.out.kept hg2 (by simp)
  obtain ⟨q0, q1⟩ := S2.out.get
  clear hg2 G3 S3 HK hb1
  by_cases hg3 : 3 < gz.length
  · have hgi : (3 : Int) < (gz.length : Int) := by omega
    go_wp2_with fail
    exact bodyPost_ret (v := .tuple #[.slice none 0 0, .int .i64 1]) (by simp [results, Try.results5, go_sem]) rfl (.inl ⟨hg3, rfl, G2.out⟩)
  · have hgi : ¬ (3 : Int) < (gz.length : Int) := by omega
    have hg3' : gz.length ≤ 3 := by omega
    have CT : Hid (∀ V, w2.grownBy V none → Calls Try.prog 16 #[.slice a L.length d, .agg #[.int .i64 (gN : Int), .slice b' gz.length k']] V (TowPost L gN gz V)) := fun V hV => towards_any L a d gN b' k' gz V (HP.out.grown (grown_trans G2.out hV)) HGd.out (HGz.out.grown (grown_trans G2.out hV)) hg3' HS.out hgN
    have hen : behC gN gz.length < 6 := by unfold behC; split <;> omega
    obtain ⟨en, hene⟩ : ∃ en, behC gN gz.length = en := ⟨_, rfl⟩
    have HEn : Hid (behC gN gz.length = en) := hene
    rw [hene] at hen
    have CE : Hid (∀ V, Calls Try.prog 18 #[.agg #[.int .i64 (gN : Int), .slice b' gz.length k']] V (Says (.int .i64 (en : Int)) V)) := fun V => by
      have := end_any gN gz.length k' b' V (by omega)
      rwa [hene] at this
    clear hene
    go_wp2_with fail
    have K9 : Hid (KeepQ w2 w2 b1 gN (.slice b' gz.length k')) := ⟨grown_refl _ _, q0, q1⟩
    clear q0 q1 S2
    go_region_held3 (fun W => KeepQ w2 W b1 gN (.slice b' gz.length k'))
      (first | (with_reducible exact KeepQ.drew K9.out) | (with_reducible exact KeepQ.call (by assumption) hgA) | (with_reducible exact KeepQ.call (by assumption) hgB) | (with_reducible exact KeepQ.call (by assumption) hgC) | (with_reducible exact KeepQ.drew (by assumption)) | assumption)
      (first
      | (go_at_call 16; refine (CT.out _ (show KeepQ w2 _ b1 gN _ from by assumption).1).mono ?_; rintro e wA ⟨bm, E, rfl, hE, hT, hbm, hgA⟩; have HEd : Hid (∀ V, wA.grownBy V none → EdgesAt V bm E) := (fun V hV => hE.kept hV (by simp)); have HTw : Hid (TowP L gN gz E ∧ Top E) := ⟨hT, hE.top⟩; clear hE hT hbm)
      | (go_at_call 18; refine (CE.out _).mono ?_; rintro e wB ⟨rfl, hgB⟩; have HgB : Hid (wA.grownBy wB none) := hgB)
      | (go_at_call 20; refine (autB_any E bm en _ (HEd.out _ (by first | exact HgB.out | exact grown_drew HgB.out)) hen).mono ?_; rintro e wC ⟨gC, pC, dsC, rfl, hgC, hcl, hln, hdt⟩; have HC : Hid ((∀ i u, dsC.flatten[i]? = some u → wC.cell? ⟨gC, i, none⟩ = some u) ∧ dsC.length = 3 ∧ ∀ c, c < 3 → ∃ lo hi, DetK lo hi wC E en c (dsC.getD c [])) := ⟨hcl, hln, hdt⟩; clear hcl hln hdt))
    all_goals
      rename_i hHeld
      have F : Hid ((3 < gz.length ∧ Says (.tuple #[.slice none 0 0, .int .i64 1]) w (.returned (.tuple #[.slice (some ⟨gC, 0, none⟩) 3 pC, .int .i64 0])) wC) ∨ (gz.length ≤ 3 ∧ BefPost L gN gz w (.returned (.tuple #[.slice (some ⟨gC, 0, none⟩) 3 pC, .int .i64 0])) wC)) := .inr ⟨hg3', E, gC, pC, dsC, rfl, grown_trans G2.out hHeld.1, HTw.out.2, HTw.out.1, HC.out.1, HC.out.2.1, by rw [HEn.out]; exact HC.out.2.2⟩
      clear hHeld hgA hgB hgC HEd HTw HC CT CE K9
      go_wp2_with fail
      exact bodyPost_ret (v := .tuple #[.slice (some ⟨gC, 0, none⟩) 3 pC, .int .i64 0]) (by simp [results, Try.results5, go_sem]) rfl F.out

end Go.Proofs.Ytcgkflddipflbaa
