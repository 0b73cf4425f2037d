/- The reference's Elements. -/
import Derived.Test.YtofjboelplknhaaMRef
namespace Go.Proofs.Ytofjboelplknhaa
open Go.RowKit
set_option linter.unusedVariables false
attribute [local go_sem ↓] app_fold

theorem ElAt.base {κ : List Nat → Nat} {n : Nat} {W0 W1 w : World} {aS : Option Addr} {cS : Nat} {es : List Ent} {D : List Item} (h : ElAt κ n W1 w aS cS es D) (hg : W0.grownBy W1 none) : ElAt κ n W0 w aS cS es D :=
  ⟨⟨ownsRow_base h.own.st hg.size, h.own.own.base hg.size, h.own.ap⟩, grown_trans hg h.old⟩
/-- Whether it is there. -/
def Found (κ : List Nat → Nat) (ws : List (List Nat)) (y k : Nat) (b : Bool) : Prop := (b = true ∧ y ∈ ws.map κ) ∨ (b = false ∧ ∀ j, j < k → κ (ws.getD j []) ≠ y)
theorem Found.end {κ : List Nat → Nat} {ws : List (List Nat)} {y k : Nat} (h : Found κ ws y k false) (hk : k = ws.length) : y ∉ ws.map κ := by
  rcases h with ⟨h, _⟩ | ⟨_, h⟩
  · cases h
  · intro hm
    obtain ⟨u, hu, rfl⟩ := List.mem_map.1 hm
    obtain ⟨j, hj, rfl⟩ := List.getElem_of_mem hu
    exact h j (by omega) (by simp [List.getD, hj])
theorem Found.yes {κ : List Nat → Nat} {ws : List (List Nat)} {y k : Nat} (h : Found κ ws y k true) : y ∈ ws.map κ := by
  rcases h with ⟨_, h⟩ | ⟨h, _⟩
  · exact h
  · cases h
theorem Found.step {κ : List Nat → Nat} {ws : List (List Nat)} {y k : Nat} {b : Bool} (h : Found κ ws y k false) (hk : k < ws.length) (hb : b = true ↔ κ (ws.getD k []) = y) : Found κ ws y (k + 1) b := by
  cases b with
  | true => exact .inl ⟨rfl, List.mem_map.2 ⟨_, getDL_mem hk, hb.1 rfl⟩⟩
  | false =>
    rcases h with ⟨h, _⟩ | ⟨_, h⟩
    · cases h
    · refine .inr ⟨rfl, fun j hj => ?_⟩
      by_cases e : j = k
      · subst e; intro he; have := hb.2 he; cases this
      · exact h j (by omega)
def RElemPost (κ : List Nat → Nat) (n l : Nat) (w : World) (E : Ending) (w' : World) : Prop :=
  ∃ (k : Nat) (aS : Option Addr) (cS : Nat) (es : List Ent), E = .returned (.slice aS k cS) ∧ EndW κ l k ∧ es.length = k ∧ es.map (·.2.2) = bfsW κ l k ∧ ElAt κ n w w' aS cS es [] ∧ w.grownBy w' none
/-- Words of elements. -/
def WordsOf (es : List Ent) (ws : List (List Nat)) : Prop := es.map (·.2.2) = ws
theorem WordsOf.len {es : List Ent} {ws : List (List Nat)} (h : WordsOf es ws) : es.length = ws.length := by unfold WordsOf at h; rw [← h, List.length_map]
theorem WordsOf.at {es : List Ent} {ws : List (List Nat)} (h : WordsOf es ws) {i : Nat} (hi : i < ws.length) : ∃ e, es[i]? = some e ∧ e.2.2 = ws.getD i [] := by
  have hl := h.len
  have h' : es.map (·.2.2) = ws := h
  subst h'
  have hi2 : i < es.length := by omega
  exact ⟨es[i], List.getElem?_eq_getElem hi2, by simp [List.getD, hi2]⟩

set_option maxHeartbeats 3200000 in
set_option maxRecDepth 100000 in
theorem elemR_any (S : Int) (l : Nat) (R : List (List Int)) (M : List Int) (a a' : Option Addr) (cc cc' : Nat) (w : World) (h : DetAt w ⟨l, S, R, M⟩ a a') (hG : Good ⟨l, S, R, M⟩) (hn : R.length ≤ 5) :
    Calls Try.prog 24 #[detV l S a R.length cc a' M.length cc'] w (RElemPost (deed (Dfa.nx ⟨l, S, R, M⟩) R.length) R.length l w) := by
  have hl4 : l ≤ 4 := by have := hG.l4; simp only at this; omega
  have hδ : ∀ s b, s < R.length → b < l → Dfa.nx ⟨l, S, R, M⟩ s b < R.length := fun s b hs hb => hG.nx_lt hs (by simp; exact hb)
  have HDo : Hid (∀ W (us : List Nat) aw cw, w.grownBy W none → (∀ x, x ∈ us → x < l) → Ints W aw (natInts us) → us.length ≤ 100000000 → Calls Try.prog 27 #[detV l S a R.length cc a' M.length cc', .slice aw us.length cw] W (DoesPost R.length (deed (Dfa.nx ⟨l, S, R, M⟩) R.length us) W)) := fun W us aw cw hW hu hi hl => doesR_any S l R M a a' aw cc cc' cw us W (h.grown hW) hG hn hu hi hl
  have HC : Hid (∀ u : List Nat, (∀ y, y ∈ u → y < l) → deed (Dfa.nx ⟨l, S, R, M⟩) R.length u < 3125) := fun u hu => (deed_facts hn hδ u hu).1
  have HJ : Hid (∀ u v : List Nat, (∀ y, y ∈ u → y < l) → (∀ y, y ∈ v → y < l) → (SameW (natInts (doesL R.length (deed (Dfa.nx ⟨l, S, R, M⟩) R.length u))) (natInts (doesL R.length (deed (Dfa.nx ⟨l, S, R, M⟩) R.length v))) ↔ deed (Dfa.nx ⟨l, S, R, M⟩) R.length u = deed (Dfa.nx ⟨l, S, R, M⟩) R.length v)) := fun u v hu hv => by
    constructor
    · intro hs
      refine does_inj hn hδ hu hv ?_
      have hs' : natInts (doesL R.length (deed (Dfa.nx ⟨l, S, R, M⟩) R.length u)) = natInts (doesL R.length (deed (Dfa.nx ⟨l, S, R, M⟩) R.length v)) := hs
      unfold natInts at hs'
      exact (List.map_inj_right (fun x y hxy => by omega)).1 hs'
    · intro e; rw [e]; rfl
  have HWd : Hid (∀ W az cz az' cz' (zs zt : List Int), Ints W az zs → Ints W az' zt → zs.length = R.length → zt.length = R.length → Calls Try.prog 18 #[.slice az R.length cz, .slice az' R.length cz'] W (TellsB (SameW zs zt) W)) := fun W az cz az' cz' zs zt i1 i2 l1 l2 => by
    have h1 := wordsR_any az az' cz cz' zs zt W i1 i2 (by rw [l1]; unfold maxLen; omega) (by rw [l2]; unfold maxLen; omega)
    rw [l1, l2] at h1
    exact h1
  generalize deed (Dfa.nx ⟨l, S, R, M⟩) R.length = κ at *
  obtain ⟨n, hn0⟩ : ∃ n, R.length = n := ⟨_, rfl⟩
  obtain ⟨mn, hmn⟩ : ∃ mn, M.length = mn := ⟨_, rfl⟩
  rw [hn0] at HDo HJ HWd ⊢
  rw [hmn] at HDo ⊢
  have HLn : Hid (∀ c, (natInts (doesL n c)).length = n) := fun c => by simp [doesL]
  obtain ⟨W1, hW1, g1, s1, bx1⟩ := box_new w (.int .i64 l) (.int .i64 S) (.slice a n cc) (.slice a' mn cc') 25
  have HW1 : Hid (W1 = _) := hW1
  have G1 : Hid (w.grownBy W1 none) := g1
  have Bx : Hid (∀ W, W1.grownBy W none → W.cell? ⟨w.heap.size, 0, none⟩ = some (.int .i64 l) ∧ W.cell? ⟨w.heap.size, 1, none⟩ = some (.int .i64 S) ∧ W.cell? ⟨w.heap.size, 2, none⟩ = some (.slice a n cc) ∧ W.cell? ⟨w.heap.size, 3, none⟩ = some (.slice a' mn cc')) := bx1
  have HD0 : Hid (Calls Try.prog 27 #[detV l S a n cc a' mn cc', .slice none 0 0] W1 (DoesPost n (κ []) W1)) := HDo.out W1 [] none 0 g1 (by simp) (.inl rfl) (by simp)
  clear h hG hn hδ hn0 hmn hW1 g1 s1 bx1
  go_enter Try.func24, Try.ntmps24
  go_wp2_with fail
  rw [← HW1.out]
  refine HD0.out.mono ?_
  rintro E w2 ⟨g0, c0, rfl, ho2, hg2⟩
  have A3 : Hid (ElAt κ n W1 (w2.alloc (.cells #[.slice (some ⟨g0, 0, none⟩) n c0, .slice none 0 0] 49)) (some ⟨w2.heap.size, 0, none⟩) 1 [(.slice (some ⟨g0, 0, none⟩) n c0, .slice none 0 0, [])] []) := by
    have hsz := hg2.size
    refine ⟨⟨⟨by simp [ecells], .inr ⟨w2.heap.size, 1, _, rfl, hsz, heap_alloc_new _ _, Nat.le_refl _, by unfold maxLen; omega, rfl, by simp [ecells]⟩⟩, ?_, fun it hm => ?_⟩, grown_trans hg2 (grown_alloc _ _)⟩
    · have h1 := to_2 ((ho2.kept (grown_alloc w2 (.cells #[.slice (some ⟨g0, 0, none⟩) n c0, .slice none 0 0] 49))).empty 3)
      exact h1
    · simp only [List.nil_append, eits, List.flatMap_cons, List.flatMap_nil, List.append_nil, List.mem_cons, List.not_mem_nil, or_false] at hm
      rcases hm with rfl | rfl
      · refine .inr (.inr ?_)
        have := ho2.ge.2
        simp only [Value.ownBlock, ne_eq, Option.some.injEq]
        omega
      · exact .inr (.inl rfl)
  clear ho2 hg2 HD0
  go_wp2_with fail
  go_loopw [4, 5] (fun v4 v5 wr => ∃ (k : Nat) (ws : List (List Nat)) (ss : List Stp) (es : List Ent) (aS : Option Addr) (cS : Nat), v4 = .slice aS es.length cS ∧ v5 = .int .i64 k ∧ OutB κ l (fun _ => false) k ws ss ∧ WordsOf es ws ∧ ElAt κ n W1 wr aS cS es []) (fun _ v _ => 3200 - (intOf v).toNat)
  case atStart => exact ⟨0, [[]], [(κ [], -1, 0)], [(.slice (some ⟨g0, 0, none⟩) n c0, .slice none 0 0, [])], _, _, rfl, rfl, OutB.start _ rfl, rfl, A3.out⟩
  case round =>
    clear A3
    rename World => wo
    obtain ⟨k, ws, ss, es, aS, cS, rfl, rfl, hB, hWs, hA⟩ := hrel
    have hlen : es.length ≤ ws.length ∧ ws.length ≤ es.length := by rw [hWs.len]; exact ⟨Nat.le_refl _, Nat.le_refl _⟩
    have hle := hB.le
    have hws := words_few hB.nodup (fun u hu => HC.out u (hB.letters u hu))
    by_cases hlt : k < ws.length
    · have hki : (k : Int) < (es.length : Int) := by omega
      obtain ⟨u, hu⟩ : ∃ u, ws.getD k [] = u := ⟨_, rfl⟩
      have hul : ∀ y, y ∈ u → y < l := by rw [← hu]; exact hB.letters _ (getDL_mem hlt)
      have hb := hB.row hlt rfl
      rw [hu] at hb
      have IB : Hid (InB κ l (fun _ => false) k 0 u ws ss) := hb
      have A : Hid (ElAt κ n W1 wo aS cS es []) := hA
      have HWs : Hid (WordsOf es ws) := hWs
      have hk3 : k ≤ 3125 := by omega
      clear hA hB hb hWs hu hlen
      go_wp2_with fail
      go_loopw [4, 6] (fun v4 v6 wr => ∃ (x : Nat) (zs : List (List Nat)) (ts : List Stp) (fs : List Ent) (aT : Option Addr) (cT : Nat), v4 = .slice aT fs.length cT ∧ v6 = .int .i64 x ∧ x ≤ l ∧ InB κ l (fun _ => false) k x u zs ts ∧ WordsOf fs zs ∧ ElAt κ n W1 wr aT cT fs []) (fun _ v _ => l - (intOf v).toNat)
      case atStart => exact ⟨0, ws, ss, es, _, _, rfl, rfl, by omega, IB.out, HWs.out, A.out⟩
      case round =>
        clear A IB HWs
        rename World => wp
        obtain ⟨x, zs, ts, fs, aT, cT, rfl, rfl, hx, hI, hWs, hA⟩ := hrel
        obtain ⟨x0, x1, x2, x3⟩ := Bx.out wp hA.old
        have hzs := words_few hI.nodup (fun z hz => HC.out z ((hI.letters hx).2 z hz))
        have hlen : fs.length ≤ zs.length ∧ zs.length ≤ fs.length := by rw [hWs.len]; exact ⟨Nat.le_refl _, Nat.le_refl _⟩
        by_cases hxl : x < l
        · have hxi : (x : Int) < (l : Int) := by omega
          obtain ⟨hkz, hzu, _⟩ := hI.at
          have hki2 : (k : Int) < (fs.length : Int) := by omega
          obtain ⟨e, he, heu⟩ := hWs.at hkz
          rw [hzu] at heu
          obtain ⟨g, rfl, _, c1, _, ⟨aw, cw, ew, iw⟩⟩ := hA.read he
          rw [heu] at ew iw
          rw [ew] at c1
          have c1' := fun ob => (grown_alloc wp ob).cell c1 (by simp)
          have hul3 : u.length ≤ 3200 := by
            have := hI.long
            omega
          obtain ⟨g5, c5, w5, hrun5, hA5⟩ := hA.word rfl iw (by omega) (cw := cw)
          obtain ⟨g6, c6, w6, hrun6, hA6⟩ := hA5.letter (a := x) rfl (by omega)
          obtain ⟨y0, y1, y2, y3⟩ := Bx.out w6 hA6.old
          have hl2 : ∀ y, y ∈ u ++ [x] → y < l := fun y hy => by
            rcases List.mem_append.1 hy with hy | hy
            · exact hul y hy
            · simp only [List.mem_singleton] at hy; omega
          have hi6 := (hA6.own.own.ints).2
          have HD6 : Hid (Calls Try.prog 27 #[detV l S a n cc a' mn cc', .slice (some ⟨g6, 0, none⟩) (u.length + 1) c6] w6 (DoesPost n (κ (u ++ [x])) w6)) := by
            have h1 := HDo.out w6 (u ++ [x]) (some ⟨g6, 0, none⟩) c6 (grown_trans G1.out hA6.old) hl2 hi6 (by simp; omega)
            rw [List.length_append, List.length_singleton] at h1
            exact h1
          have A6 : Hid (ElAt κ n W1 w6 (some ⟨g, 0, none⟩) cT fs [(3, .slice (some ⟨g6, 0, none⟩) (u.length + 1) c6, vals (natInts (u ++ [x])))]) := hA6
          have HI2 : Hid (InB κ l (fun _ => false) k x u zs ts) := hI
          have HWs : Hid (WordsOf fs zs) := hWs
          have HL2 : Hid (∀ y, y ∈ u ++ [x] → y < l) := hl2
          clear hA hA5 hA6 hI hWs hi6 he heu ew iw hzu hl2
          go_wp2_with fail
          refine HD6.out.mono ?_
          rintro E w7 ⟨g7, c7, rfl, ho7, hg7⟩
          have A7 : Hid (ElAt κ n W1 w7 (some ⟨g, 0, none⟩) cT fs [(3, .slice (some ⟨g7, 0, none⟩) n c7, vals (natInts (doesL n (κ (u ++ [x]))))), (3, .slice (some ⟨g6, 0, none⟩) (u.length + 1) c6, vals (natInts (u ++ [x])))]) := A6.out.join hg7 ho7
          clear ho7 hg7 A6 HD6 hrun5 hrun6 x0 x1 x2 x3 y0 y1 y2 y3 c1 c1'
          go_wp2_with fail
          go_loopw [9, 10] (fun v9 v10 wr => ∃ (j : Nat) (b : Bool), v9 = .bool b ∧ v10 = .int .i64 j ∧ j ≤ fs.length ∧ Found κ zs (κ (u ++ [x])) j b ∧ ElAt κ n W1 wr (some ⟨g, 0, none⟩) cT fs [(3, .slice (some ⟨g7, 0, none⟩) n c7, vals (natInts (doesL n (κ (u ++ [x]))))), (3, .slice (some ⟨g6, 0, none⟩) (u.length + 1) c6, vals (natInts (u ++ [x])))]) (fun _ v _ => fs.length - (intOf v).toNat)
          case atStart => exact ⟨0, false, rfl, rfl, by omega, .inr ⟨rfl, fun j hj => by omega⟩, A7.out⟩
          case round =>
            clear A7
            obtain ⟨j, b, rfl, rfl, hj, hF, hA⟩ := hrel
            have A8 : Hid (ElAt κ n W1 wr (some ⟨g, 0, none⟩) cT fs [(3, .slice (some ⟨g7, 0, none⟩) n c7, vals (natInts (doesL n (κ (u ++ [x]))))), (3, .slice (some ⟨g6, 0, none⟩) (u.length + 1) c6, vals (natInts (u ++ [x])))]) := hA
            cases b with
            | true =>
              have HI3 : Hid (InB κ l (fun _ => false) k (x + 1) u zs ts) := HI2.out.old hF.yes
              have A9 : Hid (ElAt κ n W1 wr (some ⟨g, 0, none⟩) cT fs []) := hA.drop
              clear hA hF A8 HI2
              by_cases hjl : (j : Int) < (fs.length : Int)
              all_goals
                go_wp2_with fail
                go_roundw
                case rel => exact ⟨x + 1, zs, ts, fs, _, _, rfl, by go_num, by omega, HI3.out, HWs.out, A9.out⟩
                case measure => simp [intOf]; omega
            | false =>
              by_cases hjl : j < fs.length
              · have hji : (j : Int) < (fs.length : Int) := by omega
                have hjz : j < zs.length := by omega
                obtain ⟨e, he, heu⟩ := HWs.out.at hjz
                obtain ⟨g', eg, d1, _, ⟨az, cz, ez, iz⟩, _⟩ := hA.read he
                cases eg
                rw [ez] at d1
                rw [heu] at iz
                have hd8 := (hA.own.own.ints).2
                have HW8 : Hid (Calls Try.prog 18 #[.slice az n cz, .slice (some ⟨g7, 0, none⟩) n c7] wr (TellsB (SameW (natInts (doesL n (κ (zs.getD j [])))) (natInts (doesL n (κ (u ++ [x]))))) wr)) := HWd.out wr az cz _ c7 _ _ iz hd8 (HLn.out _) (HLn.out _)
                have HJ8 := HJ.out (zs.getD j []) (u ++ [x]) ((HI2.out.letters (by omega)).2 _ (getDL_mem hjz)) HL2.out
                have HF : Hid (Found κ zs (κ (u ++ [x])) j false) := hF
                have HJ9 : Hid (SameW (natInts (doesL n (κ (zs.getD j [])))) (natInts (doesL n (κ (u ++ [x])))) ↔ κ (zs.getD j []) = κ (u ++ [x])) := HJ8
                clear hA hF HJ8 he heu ez iz hd8
                go_wp2_with fail
                refine HW8.out.mono ?_
                rintro E w9 ⟨b9, rfl, hb9, hg9⟩
                have HF9 : Hid (Found κ zs (κ (u ++ [x])) (j + 1) b9) := HF.out.step hjz (hb9.trans HJ9.out)
                have A9 : Hid (ElAt κ n W1 w9 (some ⟨g, 0, none⟩) cT fs [(3, .slice (some ⟨g7, 0, none⟩) n c7, vals (natInts (doesL n (κ (u ++ [x]))))), (3, .slice (some ⟨g6, 0, none⟩) (u.length + 1) c6, vals (natInts (u ++ [x])))]) := A8.out.kept hg9
                clear hb9 hg9 A8 HF HJ9 HW8 d1
                go_wp2_with fail
                go_roundw
                case rel => exact ⟨j + 1, b9, rfl, by go_num, by omega, HF9.out, A9.out⟩
                case measure => simp [intOf]; omega
              · have hji : ¬ (j : Int) < (fs.length : Int) := by omega
                have hni : κ (u ++ [x]) ∉ zs.map κ := hF.end (by omega)
                have HI3 : Hid (InB κ l (fun _ => false) k (x + 1) u (zs ++ [u ++ [x]]) (ts ++ [(κ (u ++ [x]), (k : Int), x)])) := HI2.out.new hni
                have HWs3 : Hid (WordsOf (fs ++ [(.slice (some ⟨g7, 0, none⟩) n c7, .slice (some ⟨g6, 0, none⟩) (u.length + 1) c6, u ++ [x])]) (zs ++ [u ++ [x]])) := by
                  show _ = _
                  rw [List.map_append, show fs.map (·.2.2) = zs from HWs.out]
                  rfl
                obtain ⟨g9, c9, w9, hrun9, hA9⟩ := hA.put rfl (by omega) rfl rfl
                have A9 : Hid (ElAt κ n W1 w9 (some ⟨g9, 0, none⟩) c9 (fs ++ [(.slice (some ⟨g7, 0, none⟩) n c7, .slice (some ⟨g6, 0, none⟩) (u.length + 1) c6, u ++ [x])]) []) := hA9
                have HL9 : Hid (fs.length + 1 = (fs ++ [((.slice (some ⟨g7, 0, none⟩) n c7, .slice (some ⟨g6, 0, none⟩) (u.length + 1) c6, u ++ [x]) : Ent)]).length) := by show _ = _; simp
                clear hA hF hA9 A8 HI2 hni HWs
                go_wp2_with fail
                go_roundw
                case rel => exact ⟨x + 1, _, _, _, _, _, by rw [HL9.out], by go_num, by omega, HI3.out, HWs3.out, A9.out⟩
                case measure => simp [intOf]; omega
        · have hxi : ¬ (x : Int) < (l : Int) := by omega
          have hxe : x = l := by omega
          subst hxe
          have HO : Hid (OutB κ x (fun _ => false) (k + 1) zs ts) := hI.done
          have A : Hid (ElAt κ n W1 wp aT cT fs []) := hA
          have HWs : Hid (WordsOf fs zs) := hWs
          clear hA hI hWs hlen
          go_wp2_with fail
          go_roundw
          case rel => exact ⟨k + 1, zs, ts, fs, _, _, rfl, by go_num, HO.out, HWs.out, A.out⟩
          case measure => simp [intOf]; omega
    · have hki : ¬ (k : Int) < (es.length : Int) := by omega
      have hke : k = ws.length := by omega
      have Fin : Hid (RElemPost κ n l w (.returned (.slice aS es.length cS)) wo) := ⟨es.length, aS, cS, es, rfl, by rw [hWs.len, ← hke]; exact hB.fin hke, rfl, by rw [hWs.len, ← hke, hB.is]; exact hWs, hA.base G1.out, grown_trans G1.out hA.old⟩
      clear hA hB hke hWs hlen
      go_wp2_with fail
      exact bodyPost_ret (v := .slice aS es.length cS) (by simp [results, Try.results24, go_sem]) rfl Fin.out

end Go.Proofs.Ytofjboelplknhaa
