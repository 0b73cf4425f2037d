/- Both automata at once: together. -/
import Derived.Test.YtaangdomdeklhaaUJO
namespace Go.Proofs.Ytaangdomdeklhaa
open Go.RowKit
set_option linter.unusedVariables false
set_option linter.unusedSimpArgs false
attribute [local go_sem ↓] app_fold

theorem take_flat {α β : Type} [Inhabited α] (f : α → List β) (d : α) (zs : List α) {i : Nat} (h : i < zs.length) : (zs.take (i + 1)).flatMap f = (zs.take i).flatMap f ++ f (zs.getD i d) := by
  rw [List.take_add_one, List.flatMap_append]
  simp [List.getD, h]

/-- What both at once is made into. -/
def TogP (x y : Aut) (w : World) (E : Ending) (w' : World) : Prop := ∃ T : List StepI, T.Perm (kroT x y) ∧ (T.Pairwise fun p q => ¬ numS x.L (2 * x.N * y.N) q < numS x.L (2 * x.N * y.N) p) ∧ AutoA (kroX x y T) w E w'

set_option maxHeartbeats 6400000 in
set_option maxRecDepth 100000 in
theorem togB_any (x y : Aut) (hJ : GoodJ x y) (a b e a' b' e' : Option Addr) (c d f c' d' f' : Nat) (w : World) (h : AutAt w x a b e) (h' : AutAt w y a' b' e') :
    Calls Try.prog 30 #[autV x.L x.N a x.S.length c b x.T.length d e x.F.length f, autV y.L y.N a' y.S.length c' b' y.T.length d' e' y.F.length f'] w (TogP x y w) := by
  have n1 := hJ.a.n1
  have n2 := hJ.na
  have m1 := hJ.b.n1
  have m2 := hJ.nb
  have l1 := few_S hJ.a hJ.na
  have l2 := few_S hJ.b hJ.nb
  have t1 := few_T hJ.a hJ.na
  have t2 := few_T hJ.b hJ.nb
  have hz := size_two x.N y.N n1 n2 m1 m2
  have wm1 : IntKind.i64.wrap (2 * x.N) = 2 * x.N := by rw [IntKind.wrap_i64]; omega
  have wm2 : IntKind.i64.wrap (2 * x.N * y.N) = 2 * x.N * y.N := by rw [IntKind.wrap_i64]; omega
  obtain ⟨nX, hnX⟩ : ∃ n : Nat, x.N.toNat = n := ⟨_, rfl⟩
  obtain ⟨nY, hnY⟩ : ∃ n : Nat, y.N.toNat = n := ⟨_, rfl⟩
  have HnX : Hid (x.N.toNat = nX) := hnX
  have HnY : Hid (y.N.toNat = nY) := hnY
  have IS : Hid (∀ W, w.grownBy W none → Ints W a x.S) := fun W hW => h.start.grown hW
  have IS' : Hid (∀ W, w.grownBy W none → Ints W a' y.S) := fun W hW => h'.start.grown hW
  have IF : Hid (∀ W, w.grownBy W none → Ints W e x.F) := fun W hW => h.final.grown hW
  have QS : Hid (∀ z, z ∈ x.S → 0 ≤ z ∧ z ≤ 8) := fun z hz => by have := inR_iff.1 hJ.a.s z hz; omega
  have QS' : Hid (∀ z, z ∈ y.S → 0 ≤ z ∧ z ≤ 8) := fun z hz => by have := inR_iff.1 hJ.b.s z hz; omega
  have QF : Hid (∀ z, z ∈ x.F → 0 ≤ z ∧ z ≤ 8) := fun z hz => by have := inR_iff.1 hJ.a.f z hz; omega
  have HA : Hid (GoodJ x y ∧ AutAt w x a b e ∧ AutAt w y a' b' e') := ⟨hJ, h, h'⟩
  have HLS : Hid (∀ i j s, ((x.S.take i).flatMap (fun s => y.S.map fun t => numK y.N s t 0) ++ (y.S.take j).map fun t => numK y.N s t 0).length ≤ 1000) := fun i j s => by
    rw [List.length_append, List.length_flatMap, List.length_map, List.length_take]
    have e1 : (List.map (fun s => (y.S.map fun t => numK y.N s t 0).length) (x.S.take i)).sum ≤ 64 := by
      have : ∀ l : List Int, l.length ≤ 8 → (List.map (fun s => (y.S.map fun t => numK y.N s t 0).length) l).sum ≤ 64 := fun l hl => by
        simp only [List.length_map, List.map_const', List.sum_replicate_nat]
        calc l.length * y.S.length ≤ 8 * 8 := Nat.mul_le_mul hl l2.1
          _ = 64 := rfl
      exact this _ (by rw [List.length_take]; omega)
    omega
  have HLF : Hid (∀ (i j M : Nat) (s : Int), M ≤ 8 → j ≤ 8 → ((x.F.take i).flatMap (fun s => (List.range M).map fun t : Nat => numK y.N s t 0) ++ (List.range j).map fun t : Nat => numK y.N s t 0).length ≤ 1000) := fun i j M s hM hj => by
    rw [List.length_append, List.length_flatMap, List.length_map, List.length_range]
    have e1 : (List.map (fun s => ((List.range M).map fun t : Nat => numK y.N s t 0).length) (x.F.take i)).sum ≤ 64 := by
      have : ∀ l : List Int, l.length ≤ 8 → (List.map (fun s => ((List.range M).map fun t : Nat => numK y.N s t 0).length) l).sum ≤ 64 := fun l hl => by
        simp only [List.length_map, List.length_range, List.map_const', List.sum_replicate_nat]
        calc l.length * M ≤ 8 * 8 := Nat.mul_le_mul hl hM
          _ = 64 := rfl
      exact this _ (by rw [List.length_take]; omega)
    omega
  have HFx : Hid (∀ W, w.grownBy W none → Calls Try.prog 53 #[autV x.L x.N a x.S.length c b x.T.length d e x.F.length f] W (FinG nX (setOf x.F) W)) := fun W hW => hnX ▸ finG_any x hJ.a a b e c d f W (h.grown hW)
  have HFy : Hid (∀ W, w.grownBy W none → Calls Try.prog 53 #[autV y.L y.N a' y.S.length c' b' y.T.length d' e' y.F.length f'] W (FinG nY (setOf y.F) W)) := fun W hW => hnY ▸ finG_any y hJ.b a' b' e' c' d' f' W (h'.grown hW)
  have IT : Hid (∀ W, w.grownBy W none → StepsAt W b x.T) := fun W hW => h.steps.grown hW
  have IT' : Hid (∀ W, w.grownBy W none → StepsAt W b' y.T) := fun W hW => h'.steps.grown hW
  have QT : Hid (∀ t, t ∈ x.T → StIn x.L x.N t) := fun t ht => inT_iff.1 hJ.a.t t ht
  have QT' : Hid (∀ t, t ∈ y.T → StIn y.L y.N t) := fun t ht => inT_iff.1 hJ.b.t t ht
  have HLT : Hid (∀ (i j : Nat) (s : Nat) (l : Int) (s1 : Nat) (r : List StepI), r.length ≤ 2 → (((x.T.take i).flatMap (rowK (setOf x.F) (setOf y.F) y.N y.T) ++ (y.T.take j).flatMap (pairK (setOf x.F) (setOf y.F) y.N ((s : Int), l, (s1 : Int)))) ++ r).length ≤ 1000000) := fun i j s l s1 r hr => by
    rw [List.length_append, List.length_append]
    have e1 := flat_len (rowK (setOf x.F) (setOf y.F) y.N y.T) (y.T.length * 2) (fun a => rowK_len _ _ _ _ a) (x.T.take i)
    have e2 := flat_len (pairK (setOf x.F) (setOf y.F) y.N ((s : Int), l, (s1 : Int))) 2 (fun a => pairK_len _ _ _ _ a) (y.T.take j)
    have e3 : (x.T.take i).length ≤ 256 := by rw [List.length_take]; omega
    have e4 : (y.T.take j).length ≤ 256 := by rw [List.length_take]; omega
    have e5 : (x.T.take i).length * (y.T.length * 2) ≤ 256 * 512 := Nat.mul_le_mul e3 (by omega)
    omega
  have HKI : Hid ((∀ t, t ∈ kroT x y → StIn x.L (2 * x.N * y.N) t) ∧ (kroT x y).length ≤ 1000000 ∧ (kroS x y).length ≤ 1000 ∧ (kroF x y).length ≤ 1000) := by
    refine ⟨fun t ht => kroT_in hJ ht, ?_, ?_, ?_⟩
    · have e1 := flat_len (rowK (setOf x.F) (setOf y.F) y.N y.T) (y.T.length * 2) (fun a => rowK_len _ _ _ _ a) x.T
      have e5 : x.T.length * (y.T.length * 2) ≤ 256 * 512 := Nat.mul_le_mul (by omega) (by omega)
      show (x.T.flatMap (rowK (setOf x.F) (setOf y.F) y.N y.T)).length ≤ 1000000
      omega
    · have e1 := flat_len (fun s : Int => y.S.map fun t => numK y.N s t 0) 8 (fun a => by rw [List.length_map]; omega) x.S
      show (x.S.flatMap fun s => y.S.map fun t => numK y.N s t 0).length ≤ 1000
      omega
    · have e1 := flat_len (fun s : Int => (List.range y.N.toNat).map fun t : Nat => numK y.N s (t : Nat) 0) 8 (fun a => by rw [List.length_map, List.length_range]; omega) x.F
      show (x.F.flatMap fun s => (List.range y.N.toNat).map fun t : Nat => numK y.N s (t : Nat) 0).length ≤ 1000
      omega
  have HQ : Hid (1 ≤ x.L ∧ x.L ≤ 4 ∧ 1 ≤ 2 * x.N * y.N ∧ 2 * x.N * y.N ≤ 300) := by show _ ∧ _; have := hJ.a.l1; have := hJ.a.l4; omega
  clear h h' hJ hz hnX hnY
  obtain ⟨W2, hW2, g2, s2, k2⟩ := two_boxes w x.L x.N (.slice a x.S.length c) (.slice b x.T.length d) (.slice e x.F.length f) y.L y.N (.slice a' y.S.length c') (.slice b' y.T.length d') (.slice e' y.F.length f')
  have HW2 : Hid (W2 = _) := hW2
  have S2 : Hid (W2.heap.size = w.heap.size + 1 + 1) := s2
  obtain ⟨W3, hW3⟩ : ∃ W3, W3 = W2.alloc (.cells #[.int .i64 0, .int .i64 0, .slice none 0 0, .slice none 0 0, .slice none 0 0] 25) := ⟨_, rfl⟩
  have HW3 : Hid (W3 = W2.alloc (.cells #[.int .i64 0, .int .i64 0, .slice none 0 0, .slice none 0 0, .slice none 0 0] 25)) := hW3
  have g23 : W2.grownBy W3 none := by rw [hW3]; exact grown_alloc _ _
  have G23 : Hid (W2.grownBy W3 none) := g23
  have G2 : Hid (w.grownBy W2 none) := g2
  have G3 : Hid (w.grownBy W3 none) := grown_trans g2 g23
  have s3 : W3.heap.size = w.heap.size + 1 + 1 + 1 := by rw [hW3, World.size_alloc, s2]
  have R3 : Hid (W3.heap[w.heap.size + 1 + 1]? = some (.cells #[.int .i64 0, .int .i64 0, .slice none 0 0, .slice none 0 0, .slice none 0 0] 25 (0, 0)) ∧ w.heap.size + 1 + 1 < W3.heap.size) := by
    have h1 := heap_alloc_new W2 (.cells #[.int .i64 0, .int .i64 0, .slice none 0 0, .slice none 0 0, .slice none 0 0] 25)
    rw [← hW3, s2] at h1
    exact ⟨h1, by rw [s3]; omega⟩
  have BX : Hid (∀ W, W3.grownBy W none → KeepB W2 W w.heap.size x.L x.N (.slice a x.S.length c) (.slice b x.T.length d) (.slice e x.F.length f) y.L y.N (.slice a' y.S.length c') (.slice b' y.T.length d') (.slice e' y.F.length f')) := fun W hW => k2.new (grown_trans g23 hW)
  obtain ⟨W4, hW4⟩ : ∃ W4, W4 = W3.alloc (.cells #[.int .i64 x.L, .int .i64 (2 * x.N * y.N), .slice none 0 0, .slice none 0 0, .slice none 0 0] 25) := ⟨_, rfl⟩
  have HW4 : Hid (W4 = W3.alloc (.cells #[.int .i64 x.L, .int .i64 (2 * x.N * y.N), .slice none 0 0, .slice none 0 0, .slice none 0 0] 25)) := hW4
  have ST : Hid (StJ W3 (w.heap.size + 1 + 1 + 1) x.L (2 * x.N * y.N) W4 (.slice none 0 0) (.slice none 0 0) (.slice none 0 0) [] [] [] []) := by
    have hb := heap_alloc_new W3 (.cells #[.int .i64 x.L, .int .i64 (2 * x.N * y.N), .slice none 0 0, .slice none 0 0, .slice none 0 0] 25)
    rw [← hW4, s3] at hb
    exact ⟨by rw [hW4]; exact grown_alloc _ _, s3, by rw [hW4, World.size_alloc, s3]; omega, hb, ((OwnsG.no _ _).empty 3 1).empty 53 3 |>.empty 3 1⟩
  obtain ⟨_, x0, x1, x2, x3, x4, y0, y1, y2, y3, y4⟩ := BX.out W4 ST.out.gr
  rw [hW4, hW3, hW2] at x0 x1 x2 x3 x4 y0 y1 y2 y3 y4
  clear hW2 g2 s2 k2 hW3 g23 s3 hW4
  go_enter Try.func30, Try.ntmps30
  go_wp2_with fail
  rw [← HW2.out, ← HW3.out, ← HW4.out]
  clear x0 x1 x2 x3 x4 y0 y1 y2 y3 y4 HW2 HW3 HW4
  generalize hk0 : w.heap.size = k0 at *
  go_loopw [36] (fun v wr => ∃ (i : Nat) (vS : Value), i ≤ x.S.length ∧ v = .int .i64 i ∧ StJ W3 (k0 + 1 + 1 + 1) x.L (2 * x.N * y.N) wr vS (.slice none 0 0) (.slice none 0 0) ((x.S.take i).flatMap fun s => y.S.map fun t => numK y.N s t 0) [] [] []) (fun v _ => x.S.length - (intOf v).toNat)
  case atStart => exact ⟨0, _, by omega, rfl, ST.out⟩
  case round =>
    clear ST
    rename World => wr
    obtain ⟨i, vS, hi, rfl, hst⟩ := hrel
    have ST : Hid (StJ W3 (k0 + 1 + 1 + 1) x.L (2 * x.N * y.N) wr vS (.slice none 0 0) (.slice none 0 0) ((x.S.take i).flatMap fun s => y.S.map fun t => numK y.N s t 0) [] [] []) := hst
    clear hst
    by_cases hlt : i < x.S.length
    · have hji : (i : Int) < (x.S.length : Int) := by omega
      obtain ⟨bb, off, rfl, hc⟩ := (IS.out wr (grown_trans G3.out ST.out.gr)).at hlt
      have q0 := hc i hlt
      have hq := QS.out (x.S.getD i 0) (by rw [List.getD, List.getElem?_eq_getElem hlt]; exact List.getElem_mem hlt)
      have HTk : Hid ((x.S.take (i + 1)).flatMap (fun s => y.S.map fun t => numK y.N s t 0) = (x.S.take i).flatMap (fun s => y.S.map fun t => numK y.N s t 0) ++ y.S.map fun t => numK y.N (x.S.getD i 0) t 0) := take_flat _ 0 x.S hlt
      clear hc
      obtain ⟨s, hs⟩ : ∃ s, x.S.getD i 0 = s := ⟨_, rfl⟩
      rw [hs] at q0 hq HTk
      clear hs
      obtain ⟨_, _, _, _, _, _, y0, y1, y2, y3, y4⟩ := BX.out wr ST.out.gr
      go_wp2_with fail
      clear q0 y0 y1 y2 y3 y4
      go_loopw [43] (fun v wi => ∃ (j : Nat) (vS : Value), j ≤ y.S.length ∧ v = .int .i64 j ∧ StJ W3 (k0 + 1 + 1 + 1) x.L (2 * x.N * y.N) wi vS (.slice none 0 0) (.slice none 0 0) ((x.S.take i).flatMap (fun s => y.S.map fun t => numK y.N s t 0) ++ (y.S.take j).map fun t => numK y.N s t 0) [] [] []) (fun v _ => y.S.length - (intOf v).toNat)
      case atStart => exact ⟨0, _, by omega, rfl, by rw [List.take_zero, List.map_nil, List.append_nil]; exact ST.out⟩
      case round =>
        clear ST
        rename World => wi
        obtain ⟨j, vS, hj, rfl, hst⟩ := hrel
        have ST : Hid (StJ W3 (k0 + 1 + 1 + 1) x.L (2 * x.N * y.N) wi vS (.slice none 0 0) (.slice none 0 0) ((x.S.take i).flatMap (fun s => y.S.map fun t => numK y.N s t 0) ++ (y.S.take j).map fun t => numK y.N s t 0) [] [] []) := hst
        clear hst
        by_cases hlu : j < y.S.length
        · have hju : (j : Int) < (y.S.length : Int) := by omega
          obtain ⟨bc, ofc, rfl, hc⟩ := (IS'.out wi (grown_trans G3.out ST.out.gr)).at hlu
          have q0 := hc j hlu
          have hr := QS'.out (y.S.getD j 0) (by rw [List.getD, List.getElem?_eq_getElem hlu]; exact List.getElem_mem hlu)
          have HTj : Hid (((x.S.take i).flatMap (fun s => y.S.map fun t => numK y.N s t 0) ++ (y.S.take (j + 1)).map fun t => numK y.N s t 0) = ((x.S.take i).flatMap (fun s => y.S.map fun t => numK y.N s t 0) ++ (y.S.take j).map fun t => numK y.N s t 0) ++ [numK y.N s (y.S.getD j 0) 0]) := by show _ = _; rw [List.take_add_one, List.map_append, ← List.append_assoc]; simp [List.getD, hlu]
          clear hc
          obtain ⟨t, ht⟩ : ∃ t, y.S.getD j 0 = t := ⟨_, rfl⟩
          rw [ht] at q0 hr HTj
          clear ht
          have HN : Hid (Calls Try.prog 52 #[.int .i64 s, .int .i64 t, .int .i64 0, .pointer (some ⟨k0 + 1, 0, none⟩)] wi.drew fun e w' => e = .returned (.int .i64 (numK y.N s t 0)) ∧ w' = wi.drew) := numberK_any s t 0 y.N (k0 + 1) wi.drew (by obtain ⟨_, _, _, _, _, _, _, y1, _⟩ := BX.out wi ST.out.gr; exact y1) hq hr (by omega) (by omega)
          obtain ⟨z, hzz⟩ : ∃ z, numK y.N s t 0 = z := ⟨_, rfl⟩
          rw [hzz] at HN HTj
          have HZ : Hid (numK y.N s t 0 = z) := hzz
          clear hzz
          obtain ⟨zs, hzs⟩ : ∃ zs, ((x.S.take i).flatMap (fun s => y.S.map fun t => numK y.N s t 0) ++ (y.S.take j).map fun t => numK y.N s t 0) = zs := ⟨_, rfl⟩
          have hln : zs.length ≤ 1000 := by rw [← hzs]; exact HLS.out i j s
          rw [hzs] at ST HTj
          clear hzs
          obtain ⟨a7, c7, g7, d7, w7, hv7, hrun, c72, f72, st7⟩ := (ST.out.kept (grown_drew (grown_refl _ _) : wi.grownBy wi.drew none)).addS (by omega) z
          subst hv7
          have STN : Hid (StJ W3 (k0 + 1 + 1 + 1) x.L (2 * x.N * y.N) (w7.setCell ⟨k0 + 1 + 1 + 1, 2, none⟩ (.slice (some ⟨g7, 0, none⟩) (zs.length + 1) d7)) (.slice (some ⟨g7, 0, none⟩) (zs.length + 1) d7) (.slice none 0 0) (.slice none 0 0) ((x.S.take i).flatMap (fun s => y.S.map fun t => numK y.N s t 0) ++ (y.S.take (j + 1)).map fun t => numK y.N s t 0) [] [] []) := by show StJ _ _ _ _ _ _ _ _ _ _ _ _; rw [HTj.out]; exact st7
          have cb2 := (block_cells5A ST.out.box).2.2.1
          have cb3 : ∀ o, (wi.alloc o).cell? ⟨k0 + 1 + 1 + 1, 2, none⟩ = some (.slice a7 zs.length c7) := fun o => (grown_alloc wi o).cell cb2 (by simp)
          clear st7 HTj
          generalize zs.length = LL at *
          have hrun2 : (AppS #[22, 22] 22 #[.slice a7 LL c7, .slice (some ⟨wi.heap.size, 0, none⟩) 1 1]).run Try.prog (wi.alloc (.cells #[.int .i64 z] 3)).drew = .ok (.slice (some ⟨g7, 0, none⟩) (LL + 1) d7) w7 := hrun
          clear hrun
          go_wp2_with fail
          go_region_with (first | (go_at_call 52; refine HN.out.mono ?_; rintro E wA ⟨rfl, rfl⟩))
          all_goals
            go_wp2_with fail
            go_roundw
            case rel => exact ⟨j + 1, _, by omega, by go_num, STN.out⟩
            case measure => simp [intOf]; omega
        · have hju : ¬ (j : Int) < (y.S.length : Int) := by omega
          have STE : Hid (StJ W3 (k0 + 1 + 1 + 1) x.L (2 * x.N * y.N) wi vS (.slice none 0 0) (.slice none 0 0) ((x.S.take (i + 1)).flatMap fun s => y.S.map fun t => numK y.N s t 0) [] [] []) := by
            have h1 := ST.out
            rw [show y.S.take j = y.S from List.take_of_length_le (by omega), ← HTk.out] at h1
            exact h1
          clear ST
          go_wp2_with fail
          go_roundw
          case rel => exact ⟨i + 1, _, by omega, by go_num, STE.out⟩
          case measure => simp [intOf]; omega
    · have hji : ¬ (i : Int) < (x.S.length : Int) := by omega
      have STE : Hid (StJ W3 (k0 + 1 + 1 + 1) x.L (2 * x.N * y.N) wr vS (.slice none 0 0) (.slice none 0 0) (kroS x y) [] [] []) := by
        have h1 := ST.out
        rw [List.take_of_length_le (by omega)] at h1
        exact h1
      clear ST
      obtain ⟨_, x0, x1, x2, x3, x4, y0, y1, y2, y3, y4⟩ := BX.out wr STE.out.gr
      go_wp2_with fail
      clear x0 x1 x2 x3 x4 y0 y1 y2 y3 y4
      obtain ⟨M, hM⟩ : ∃ M : Nat, y.N.toNat = M := ⟨_, rfl⟩
      have HMN : Hid (y.N = M ∧ M ≤ 8) := by show _ ∧ _; omega
      have HM : Hid (y.N.toNat = M) := hM
      clear hM
      go_loopw [61] (fun v wr => ∃ (i : Nat) (vF : Value), i ≤ x.F.length ∧ v = .int .i64 i ∧ StJ W3 (k0 + 1 + 1 + 1) x.L (2 * x.N * y.N) wr vS (.slice none 0 0) vF (kroS x y) [] ((x.F.take i).flatMap fun s => (List.range M).map fun t : Nat => numK y.N s t 0) []) (fun v _ => x.F.length - (intOf v).toNat)
      case atStart => exact ⟨0, _, by omega, rfl, STE.out⟩
      case round =>
        clear STE
        rename World => wr
        obtain ⟨i, vF, hi, rfl, hst⟩ := hrel
        have ST : Hid (StJ W3 (k0 + 1 + 1 + 1) x.L (2 * x.N * y.N) wr vS (.slice none 0 0) vF (kroS x y) [] ((x.F.take i).flatMap fun s => (List.range M).map fun t : Nat => numK y.N s t 0) []) := hst
        clear hst
        by_cases hlt : i < x.F.length
        · have hji : (i : Int) < (x.F.length : Int) := by omega
          obtain ⟨bb, off, rfl, hc⟩ := (IF.out wr (grown_trans G3.out ST.out.gr)).at hlt
          have q0 := hc i hlt
          have hq := QF.out (x.F.getD i 0) (by rw [List.getD, List.getElem?_eq_getElem hlt]; exact List.getElem_mem hlt)
          have HTk : Hid (((x.F.take (i + 1)).flatMap fun s => (List.range M).map fun t : Nat => numK y.N s t 0) = ((x.F.take i).flatMap fun s => (List.range M).map fun t : Nat => numK y.N s t 0) ++ (List.range M).map fun t : Nat => numK y.N (x.F.getD i 0) t 0) := take_flat _ 0 x.F hlt
          clear hc
          obtain ⟨s, hs⟩ : ∃ s, x.F.getD i 0 = s := ⟨_, rfl⟩
          rw [hs] at q0 hq HTk
          clear hs
          obtain ⟨_, _, _, _, _, _, y0, y1, y2, y3, y4⟩ := BX.out wr ST.out.gr
          go_wp2_with fail
          clear q0 y0 y1 y2 y3 y4
          go_loopw [67] (fun v wi => ∃ (j : Nat) (vF : Value), j ≤ M ∧ v = .int .i64 j ∧ StJ W3 (k0 + 1 + 1 + 1) x.L (2 * x.N * y.N) wi vS (.slice none 0 0) vF (kroS x y) [] (((x.F.take i).flatMap fun s => (List.range M).map fun t : Nat => numK y.N s t 0) ++ (List.range j).map fun t : Nat => numK y.N s t 0) []) (fun v _ => M - (intOf v).toNat)
          case atStart => exact ⟨0, _, by omega, rfl, by rw [List.range_zero, List.map_nil, List.append_nil]; exact ST.out⟩
          case round =>
            clear ST
            rename World => wi
            obtain ⟨j, vF, hj, rfl, hst⟩ := hrel
            have ST : Hid (StJ W3 (k0 + 1 + 1 + 1) x.L (2 * x.N * y.N) wi vS (.slice none 0 0) vF (kroS x y) [] (((x.F.take i).flatMap fun s => (List.range M).map fun t : Nat => numK y.N s t 0) ++ (List.range j).map fun t : Nat => numK y.N s t 0) []) := hst
            clear hst
            by_cases hlu : j < M
            · have hju : (j : Int) < y.N := by have := HMN.out; omega
              have HTj : Hid ((((x.F.take i).flatMap fun s => (List.range M).map fun t : Nat => numK y.N s t 0) ++ (List.range (j + 1)).map fun t : Nat => numK y.N s t 0) = (((x.F.take i).flatMap fun s => (List.range M).map fun t : Nat => numK y.N s t 0) ++ (List.range j).map fun t : Nat => numK y.N s t 0) ++ [numK y.N s (j : Nat) 0]) := by show _ = _; rw [List.range_succ, List.map_append, ← List.append_assoc]; rfl
              have HN : Hid (Calls Try.prog 52 #[.int .i64 s, .int .i64 (j : Nat), .int .i64 0, .pointer (some ⟨k0 + 1, 0, none⟩)] wi.drew fun e w' => e = .returned (.int .i64 (numK y.N s (j : Nat) 0)) ∧ w' = wi.drew) := numberK_any s j 0 y.N (k0 + 1) wi.drew (by obtain ⟨_, _, _, _, _, _, _, y1, _⟩ := BX.out wi ST.out.gr; exact y1) hq (by have := HMN.out; omega) (by omega) (by omega)
              obtain ⟨z, hzz⟩ : ∃ z, numK y.N s (j : Nat) 0 = z := ⟨_, rfl⟩
              rw [hzz] at HN HTj
              clear hzz
              obtain ⟨zs, hzs⟩ : ∃ zs, (((x.F.take i).flatMap fun s => (List.range M).map fun t : Nat => numK y.N s t 0) ++ (List.range j).map fun t : Nat => numK y.N s t 0) = zs := ⟨_, rfl⟩
              have hln : zs.length ≤ 1000 := by rw [← hzs]; exact HLF.out i j M s HMN.out.2 (by have := HMN.out; omega)
              rw [hzs] at ST HTj
              clear hzs
              obtain ⟨a7, c7, g7, d7, w7, hv7, hrun, c72, f72, st7⟩ := (ST.out.kept (grown_drew (grown_refl _ _) : wi.grownBy wi.drew none)).addF (by omega) z
              subst hv7
              have STN : Hid (StJ W3 (k0 + 1 + 1 + 1) x.L (2 * x.N * y.N) (w7.setCell ⟨k0 + 1 + 1 + 1, 4, none⟩ (.slice (some ⟨g7, 0, none⟩) (zs.length + 1) d7)) vS (.slice none 0 0) (.slice (some ⟨g7, 0, none⟩) (zs.length + 1) d7) (kroS x y) [] (((x.F.take i).flatMap fun s => (List.range M).map fun t : Nat => numK y.N s t 0) ++ (List.range (j + 1)).map fun t : Nat => numK y.N s t 0) []) := by show StJ _ _ _ _ _ _ _ _ _ _ _ _; rw [HTj.out]; exact st7
              have cb2 := (block_cells5A ST.out.box).2.2.2.2.1
              have cb3 : ∀ o, (wi.alloc o).cell? ⟨k0 + 1 + 1 + 1, 4, none⟩ = some (.slice a7 zs.length c7) := fun o => (grown_alloc wi o).cell cb2 (by simp)
              clear st7 HTj
              generalize zs.length = LL at *
              have hrun2 : (AppS #[22, 22] 22 #[.slice a7 LL c7, .slice (some ⟨wi.heap.size, 0, none⟩) 1 1]).run Try.prog (wi.alloc (.cells #[.int .i64 z] 3)).drew = .ok (.slice (some ⟨g7, 0, none⟩) (LL + 1) d7) w7 := hrun
              clear hrun
              go_wp2_with fail
              go_region_with (first | (go_at_call 52; refine HN.out.mono ?_; rintro E wA ⟨rfl, rfl⟩))
              all_goals
                go_wp2_with fail
                go_roundw
                case rel => exact ⟨j + 1, _, by omega, by go_num, STN.out⟩
                case measure => simp [intOf]; omega
            · have hju : ¬ (j : Int) < y.N := by have := HMN.out; omega
              have STE : Hid (StJ W3 (k0 + 1 + 1 + 1) x.L (2 * x.N * y.N) wi vS (.slice none 0 0) vF (kroS x y) [] ((x.F.take (i + 1)).flatMap fun s => (List.range M).map fun t : Nat => numK y.N s t 0) []) := by
                have h1 := ST.out
                rw [show j = M by omega, ← HTk.out] at h1
                exact h1
              clear ST
              go_wp2_with fail
              go_roundw
              case rel => exact ⟨i + 1, _, by omega, by go_num, STE.out⟩
              case measure => simp [intOf]; omega
        · have hji : ¬ (i : Int) < (x.F.length : Int) := by omega
          have STE : Hid (StJ W3 (k0 + 1 + 1 + 1) x.L (2 * x.N * y.N) wr vS (.slice none 0 0) vF (kroS x y) [] (kroF x y) []) := by
            have h1 := ST.out
            rw [List.take_of_length_le (by omega), ← HM.out] at h1
            exact h1
          clear ST
          obtain ⟨_, x0, x1, x2, x3, x4, y0, y1, y2, y3, y4⟩ := BX.out wr STE.out.gr
          go_wp2_with fail
          clear x0 x1 x2 x3 x4 y0 y1 y2 y3 y4
          have K0 : Hid (KeepB W2 wr k0 x.L x.N (.slice a x.S.length c) (.slice b x.T.length d) (.slice e x.F.length f) y.L y.N (.slice a' y.S.length c') (.slice b' y.T.length d') (.slice e' y.F.length f')) := BX.out wr STE.out.gr
          go_region_held3 (fun W => KeepB W2 W k0 x.L x.N (.slice a x.S.length c) (.slice b x.T.length d) (.slice e x.F.length f) y.L y.N (.slice a' y.S.length c') (.slice b' y.T.length d') (.slice e' y.F.length f'))
            (first | (with_reducible exact KeepB.drew K0.out) | (with_reducible exact KeepB.call (by assumption) hgA) | (with_reducible exact KeepB.call (by assumption) hgB) | (with_reducible exact KeepB.drew (by assumption)) | assumption)
            (first
            | (go_at_call_of 53 (Value.agg #[.int .i64 x.L, .int .i64 x.N, .slice a x.S.length c, .slice b x.T.length d, .slice e x.F.length f]); refine (HFx.out _ (grown_trans G2.out (KeepB.gr (by assumption)))).mono ?_; rintro E wA ⟨gA, rfl, hoA, hgA⟩; have STA : Hid (StJ W3 (k0 + 1 + 1 + 1) x.L (2 * x.N * y.N) wA vS (.slice none 0 0) vF (kroS x y) [] (kroF x y) [tabG gA nX (setOf x.F)]) := (STE.out.kept (by first | exact grown_refl _ _ | exact grown_drew (grown_refl _ _))).more hgA hoA)
            | (go_at_call_of 53 (Value.agg #[.int .i64 y.L, .int .i64 y.N, .slice a' y.S.length c', .slice b' y.T.length d', .slice e' y.F.length f']); refine (HFy.out _ (grown_trans G2.out (KeepB.gr (by assumption)))).mono ?_; rintro E wB ⟨gB, rfl, hoB, hgB⟩; have STB : Hid (StJ W3 (k0 + 1 + 1 + 1) x.L (2 * x.N * y.N) wB vS (.slice none 0 0) vF (kroS x y) [] (kroF x y) [tabG gB nY (setOf y.F), tabG gA nX (setOf x.F)]) := STA.out.more hgB hoB))
          all_goals
            clear hoA hgA hoB hgB STA STE K0
            rename_i hHeld
            clear hHeld
            obtain ⟨_, x0, x1, x2, x3, x4, y0, y1, y2, y3, y4⟩ := BX.out wB STB.out.gr
            go_wp2_with fail
            clear x0 x1 x2 x3 x4 y0 y1 y2 y3 y4
            go_loopw [88] (fun v wr => ∃ (i : Nat) (vT : Value), i ≤ x.T.length ∧ v = .int .i64 i ∧ StJ W3 (k0 + 1 + 1 + 1) x.L (2 * x.N * y.N) wr vS vT vF (kroS x y) ((x.T.take i).flatMap (rowK (setOf x.F) (setOf y.F) y.N y.T)) (kroF x y) [tabG gB nY (setOf y.F), tabG gA nX (setOf x.F)]) (fun v _ => x.T.length - (intOf v).toNat)
            case atStart => exact ⟨0, _, by omega, rfl, STB.out⟩
            case round =>
              clear STB
              rename World => wr
              obtain ⟨i, vT, hi, rfl, hst⟩ := hrel
              have ST : Hid (StJ W3 (k0 + 1 + 1 + 1) x.L (2 * x.N * y.N) wr vS vT vF (kroS x y) ((x.T.take i).flatMap (rowK (setOf x.F) (setOf y.F) y.N y.T)) (kroF x y) [tabG gB nY (setOf y.F), tabG gA nX (setOf x.F)]) := hst
              clear hst
              by_cases hlt : i < x.T.length
              · have hji : (i : Int) < (x.T.length : Int) := by omega
                obtain ⟨bb, off, rfl, hc⟩ := (IT.out wr (grown_trans G3.out ST.out.gr)).at hlt
                obtain ⟨q0, q1, q2⟩ := hc i hlt
                have hin := QT.out (x.T.getD i (0, 0, 0)) (by rw [getT_lt hlt]; exact List.getElem_mem hlt)
                have HTk : Hid ((x.T.take (i + 1)).flatMap (rowK (setOf x.F) (setOf y.F) y.N y.T) = (x.T.take i).flatMap (rowK (setOf x.F) (setOf y.F) y.N y.T) ++ (rowK (setOf x.F) (setOf y.F) y.N y.T) (x.T.getD i (0, 0, 0))) := take_flat _ (0, 0, 0) x.T hlt
                clear hc
                generalize x.T.getD i (0, 0, 0) = u at *
                obtain ⟨s0, l, s10⟩ := u
                obtain ⟨⟨a1, a2⟩, ⟨a3, a4⟩, a5, a6⟩ := hin
                simp only at a1 a2 a3 a4 a5 a6 q0 q1 q2
                obtain ⟨s, rfl⟩ : ∃ s : Nat, s0 = s := ⟨s0.toNat, by omega⟩
                obtain ⟨s1, rfl⟩ : ∃ s : Nat, s10 = s := ⟨s10.toNat, by omega⟩
                have STU : Hid (StJ W3 (k0 + 1 + 1 + 1) x.L (2 * x.N * y.N) (wr.alloc (.cells #[.int .i64 (s : Nat), .int .i64 l, .int .i64 (s1 : Nat)] 53)) vS vT vF (kroS x y) ((x.T.take i).flatMap (rowK (setOf x.F) (setOf y.F) y.N y.T)) (kroF x y) (⟨53, 3, .slice (some ⟨wr.heap.size, 0, none⟩) 1 1, 1, [.int .i64 (s : Nat), .int .i64 l, .int .i64 (s1 : Nat)]⟩ :: [tabG gB nY (setOf y.F), tabG gA nX (setOf x.F)])) := ST.out.more (grown_alloc _ _) (box3_own _ _ _ _ _)
                have cy : ∀ o, (wr.alloc o).cell? ⟨k0 + 1, 3, none⟩ = some (.slice b' y.T.length d') := fun o => by
                  obtain ⟨_, _, _, _, _, _, y0, y1, y2, y3, y4⟩ := BX.out (wr.alloc o) (grown_trans ST.out.gr (grown_alloc _ _))
                  exact y3
                go_wp2_with fail
                clear q0 q1 q2 cy
                generalize hbu : wr.heap.size = bu at *
                go_loopw [95] (fun v wj => ∃ (j : Nat) (vT : Value), j ≤ y.T.length ∧ v = .int .i64 j ∧ StJ W3 (k0 + 1 + 1 + 1) x.L (2 * x.N * y.N) wj vS vT vF (kroS x y) ((x.T.take i).flatMap (rowK (setOf x.F) (setOf y.F) y.N y.T) ++ (y.T.take j).flatMap (pairK (setOf x.F) (setOf y.F) y.N ((s : Int), l, (s1 : Int)))) (kroF x y) (⟨53, 3, .slice (some ⟨bu, 0, none⟩) 1 1, 1, [.int .i64 (s : Nat), .int .i64 l, .int .i64 (s1 : Nat)]⟩ :: [tabG gB nY (setOf y.F), tabG gA nX (setOf x.F)])) (fun v _ => y.T.length - (intOf v).toNat)
                case atStart => exact ⟨0, _, by omega, rfl, by rw [List.take_zero, List.flatMap_nil, List.append_nil]; exact STU.out⟩
                case round =>
                  clear STU ST
                  rename World => wj
                  obtain ⟨j, vT, hj, rfl, hst⟩ := hrel
                  have ST : Hid (StJ W3 (k0 + 1 + 1 + 1) x.L (2 * x.N * y.N) wj vS vT vF (kroS x y) ((x.T.take i).flatMap (rowK (setOf x.F) (setOf y.F) y.N y.T) ++ (y.T.take j).flatMap (pairK (setOf x.F) (setOf y.F) y.N ((s : Int), l, (s1 : Int)))) (kroF x y) (⟨53, 3, .slice (some ⟨bu, 0, none⟩) 1 1, 1, [.int .i64 (s : Nat), .int .i64 l, .int .i64 (s1 : Nat)]⟩ :: [tabG gB nY (setOf y.F), tabG gA nX (setOf x.F)])) := hst
                  clear hst
                  by_cases hlu : j < y.T.length
                  · have hju : (j : Int) < (y.T.length : Int) := by omega
                    obtain ⟨bc, ofc, rfl, hc⟩ := (IT'.out wj (grown_trans G3.out ST.out.gr)).at hlu
                    obtain ⟨q0, q1, q2⟩ := hc j hlu
                    have hin := QT'.out (y.T.getD j (0, 0, 0)) (by rw [getT_lt hlu]; exact List.getElem_mem hlu)
                    have HTj : Hid ((x.T.take i).flatMap (rowK (setOf x.F) (setOf y.F) y.N y.T) ++ (y.T.take (j + 1)).flatMap (pairK (setOf x.F) (setOf y.F) y.N ((s : Int), l, (s1 : Int))) = ((x.T.take i).flatMap (rowK (setOf x.F) (setOf y.F) y.N y.T) ++ (y.T.take j).flatMap (pairK (setOf x.F) (setOf y.F) y.N ((s : Int), l, (s1 : Int)))) ++ (pairK (setOf x.F) (setOf y.F) y.N ((s : Int), l, (s1 : Int))) (y.T.getD j (0, 0, 0))) := by show _ = _; rw [take_flat _ (0, 0, 0) y.T hlu, List.append_assoc]
                    clear hc
                    generalize y.T.getD j (0, 0, 0) = v at *
                    obtain ⟨t0, l', t10⟩ := v
                    obtain ⟨⟨b1, b2⟩, ⟨b3, b4⟩, b5, b6⟩ := hin
                    simp only at b1 b2 b3 b4 b5 b6 q0 q1 q2
                    obtain ⟨t, rfl⟩ : ∃ t : Nat, t0 = t := ⟨t0.toNat, by omega⟩
                    obtain ⟨t1, rfl⟩ : ∃ t : Nat, t10 = t := ⟨t10.toNat, by omega⟩
                    have STV : Hid (StJ W3 (k0 + 1 + 1 + 1) x.L (2 * x.N * y.N) (wj.alloc (.cells #[.int .i64 (t : Nat), .int .i64 l', .int .i64 (t1 : Nat)] 53)) vS vT vF (kroS x y) ((x.T.take i).flatMap (rowK (setOf x.F) (setOf y.F) y.N y.T) ++ (y.T.take j).flatMap (pairK (setOf x.F) (setOf y.F) y.N ((s : Int), l, (s1 : Int)))) (kroF x y) (⟨53, 3, .slice (some ⟨wj.heap.size, 0, none⟩) 1 1, 1, [.int .i64 (t : Nat), .int .i64 l', .int .i64 (t1 : Nat)]⟩ :: ⟨53, 3, .slice (some ⟨bu, 0, none⟩) 1 1, 1, [.int .i64 (s : Nat), .int .i64 l, .int .i64 (s1 : Nat)]⟩ :: [tabG gB nY (setOf y.F), tabG gA nX (setOf x.F)])) := ST.out.more (grown_alloc _ _) (box3_own _ _ _ _ _)
                    have cu1 : ∀ o, (wj.alloc o).cell? ⟨bu, 1, none⟩ = some (.int .i64 l) := fun o => (grown_alloc _ _).cell (ST.out.cell (it := ⟨53, 3, .slice (some ⟨bu, 0, none⟩) 1 1, 1, [.int .i64 (s : Nat), .int .i64 l, .int .i64 (s1 : Nat)]⟩) (List.mem_cons_self ..) (i := 1) rfl rfl) (by simp)
                    by_cases hll : l = l'
                    · subst hll
                      go_wp2_with fail
                      clear q0 q1 q2 cu1
                      generalize hbv : wj.heap.size = bv at *
                      have sn : s < nX := by have := HnX.out; omega
                      have tn : t < nY := by have := HnY.out; omega
                      obtain ⟨pA, hpA⟩ : ∃ p, (setOf x.F).testBit s = p := ⟨_, rfl⟩
                      obtain ⟨pB, hpB⟩ : ∃ p, (setOf y.F).testBit t = p := ⟨_, rfl⟩
                      have sni : (s : Int) < (nX : Int) := by omega
                      have tni : (t : Int) < (nY : Int) := by omega
                      have HpA : Hid ((setOf x.F).testBit s = pA) := hpA
                      have HpB : Hid ((setOf y.F).testBit t = pB) := hpB
                      obtain ⟨W5, hW5⟩ : ∃ W5, wj.alloc (.cells #[.int .i64 (t : Nat), .int .i64 l, .int .i64 (t1 : Nat)] 53) = W5 := ⟨_, rfl⟩
                      rw [hW5] at STV
                      rw [hW5]
                      have S29 : Hid (∀ W, W5.grownBy W none → W.cell? ⟨bu, 0, none⟩ = some (.int .i64 (s : Nat)) ∧ W.cell? ⟨bv, 0, none⟩ = some (.int .i64 (t : Nat)) ∧ W.cell? ⟨gA, s, none⟩ = some (.bool pA) ∧ W.cell? ⟨gB, t, none⟩ = some (.bool pB)) := fun W hW => by
                        have hK := STV.out.kept hW
                        have h0 : SBx bu bv (s : Nat) l (s1 : Nat) (t : Nat) (t1 : Nat) W := SBx.of (l := l) (l' := l) (hK.own.1 _ (by simp)) (hK.own.1 _ (by simp))
                        refine ⟨h0.1, h0.2.2.2.1, ?_, ?_⟩
                        · exact hK.cell (it := tabG gA nX (setOf x.F)) (by simp) rfl (by rw [← hpA]; exact bset_get sn)
                        · exact hK.cell (it := tabG gB nY (setOf y.F)) (by simp) rfl (by rw [← hpB]; exact bset_get tn)
                      clear hpA hpB hW5 ST
                      go_region_held3 (fun W => W.cell? ⟨bu, 0, none⟩ = some (.int .i64 (s : Nat)) ∧ W.cell? ⟨bv, 0, none⟩ = some (.int .i64 (t : Nat)) ∧ W.cell? ⟨gA, s, none⟩ = some (.bool pA) ∧ W.cell? ⟨gB, t, none⟩ = some (.bool pB))
                        (first | (exact S29.out _ (grown_drew (grown_refl _ _))) | assumption)
                        (fail)
                      rename_i hHeld
                      clear hHeld
                      go_wp2_with fail
                      have STV2 : Hid (StJ W3 (k0 + 1 + 1 + 1) x.L (2 * x.N * y.N) W5.drew vS vT vF (kroS x y) ((x.T.take i).flatMap (rowK (setOf x.F) (setOf y.F) y.N y.T) ++ (y.T.take j).flatMap (pairK (setOf x.F) (setOf y.F) y.N ((s : Int), l, (s1 : Int)))) (kroF x y) (⟨53, 3, .slice (some ⟨bv, 0, none⟩) 1 1, 1, [.int .i64 (t : Nat), .int .i64 l, .int .i64 (t1 : Nat)]⟩ :: ⟨53, 3, .slice (some ⟨bu, 0, none⟩) 1 1, 1, [.int .i64 (s : Nat), .int .i64 l, .int .i64 (s1 : Nat)]⟩ :: [tabG gB nY (setOf y.F), tabG gA nX (setOf x.F)])) := STV.out.kept (grown_drew (grown_refl _ _))
                      clear STV S29
                      go_loopw [115] (fun v wk => ∃ (k : Nat) (vT : Value), k ≤ 2 ∧ v = .int .i64 k ∧ StJ W3 (k0 + 1 + 1 + 1) x.L (2 * x.N * y.N) wk vS vT vF (kroS x y) (((x.T.take i).flatMap (rowK (setOf x.F) (setOf y.F) y.N y.T) ++ (y.T.take j).flatMap (pairK (setOf x.F) (setOf y.F) y.N ((s : Int), l, (s1 : Int)))) ++ [stepK (setOf x.F) (setOf y.F) y.N ((s : Int), l, (s1 : Int)) ((t : Int), l, (t1 : Int)) 0, stepK (setOf x.F) (setOf y.F) y.N ((s : Int), l, (s1 : Int)) ((t : Int), l, (t1 : Int)) 1].take k) (kroF x y) (⟨53, 3, .slice (some ⟨bv, 0, none⟩) 1 1, 1, [.int .i64 (t : Nat), .int .i64 l, .int .i64 (t1 : Nat)]⟩ :: ⟨53, 3, .slice (some ⟨bu, 0, none⟩) 1 1, 1, [.int .i64 (s : Nat), .int .i64 l, .int .i64 (s1 : Nat)]⟩ :: [tabG gB nY (setOf y.F), tabG gA nX (setOf x.F)])) (fun v _ => 2 - (intOf v).toNat)
                      case atStart => exact ⟨0, _, by omega, rfl, by rw [List.take_zero, List.append_nil]; exact STV2.out⟩
                      case round =>
                        clear STV2
                        rename World => wk
                        obtain ⟨k, vT, hk, rfl, hst⟩ := hrel
                        have hk3 : k = 0 ∨ k = 1 ∨ k = 2 := by omega
                        rcases hk3 with rfl | rfl | rfl
                        · have STK : Hid (StJ W3 (k0 + 1 + 1 + 1) x.L (2 * x.N * y.N) wk vS vT vF (kroS x y) (((x.T.take i).flatMap (rowK (setOf x.F) (setOf y.F) y.N y.T) ++ (y.T.take j).flatMap (pairK (setOf x.F) (setOf y.F) y.N ((s : Int), l, (s1 : Int)))) ++ [stepK (setOf x.F) (setOf y.F) y.N ((s : Int), l, (s1 : Int)) ((t : Int), l, (t1 : Int)) 0, stepK (setOf x.F) (setOf y.F) y.N ((s : Int), l, (s1 : Int)) ((t : Int), l, (t1 : Int)) 1].take 0) (kroF x y) (⟨53, 3, .slice (some ⟨bv, 0, none⟩) 1 1, 1, [.int .i64 (t : Nat), .int .i64 l, .int .i64 (t1 : Nat)]⟩ :: ⟨53, 3, .slice (some ⟨bu, 0, none⟩) 1 1, 1, [.int .i64 (s : Nat), .int .i64 l, .int .i64 (s1 : Nat)]⟩ :: [tabG gB nY (setOf y.F), tabG gA nX (setOf x.F)])) := hst
                          clear hst hk
                          cases pA with
                          | true =>
                            have HX : Hid (nxW (setOf x.F) (setOf y.F) s t 0 = 1) := by show _ = _; unfold nxW; simp [HpA.out]
                            have HTx : Hid (((x.T.take i).flatMap (rowK (setOf x.F) (setOf y.F) y.N y.T) ++ (y.T.take j).flatMap (pairK (setOf x.F) (setOf y.F) y.N ((s : Int), l, (s1 : Int)))) ++ [stepK (setOf x.F) (setOf y.F) y.N ((s : Int), l, (s1 : Int)) ((t : Int), l, (t1 : Int)) 0, stepK (setOf x.F) (setOf y.F) y.N ((s : Int), l, (s1 : Int)) ((t : Int), l, (t1 : Int)) 1].take 1 = (((x.T.take i).flatMap (rowK (setOf x.F) (setOf y.F) y.N y.T) ++ (y.T.take j).flatMap (pairK (setOf x.F) (setOf y.F) y.N ((s : Int), l, (s1 : Int)))) ++ [stepK (setOf x.F) (setOf y.F) y.N ((s : Int), l, (s1 : Int)) ((t : Int), l, (t1 : Int)) 0, stepK (setOf x.F) (setOf y.F) y.N ((s : Int), l, (s1 : Int)) ((t : Int), l, (t1 : Int)) 1].take 0) ++ [(numK y.N s t 0, l, numK y.N s1 t1 1)]) := by
                              show _ = _
                              rw [stepK_at, stepK_at]
                              have e := HX.out
                              simp [e]
                            have HN1 : Hid (Calls Try.prog 52 #[.int .i64 (s : Nat), .int .i64 (t : Nat), .int .i64 0, .pointer (some ⟨k0 + 1, 0, none⟩)] wk.drew fun e w' => e = .returned (.int .i64 (numK y.N s t 0)) ∧ w' = wk.drew) := numberK_any s t 0 y.N (k0 + 1) wk.drew (by obtain ⟨_, _, _, _, _, _, _, y1, _⟩ := BX.out wk STK.out.gr; exact y1) (by omega) (by omega) (by omega) (by omega)
                            have HN2 : Hid (Calls Try.prog 52 #[.int .i64 (s1 : Nat), .int .i64 (t1 : Nat), .int .i64 1, .pointer (some ⟨k0 + 1, 0, none⟩)] wk.drew fun e w' => e = .returned (.int .i64 (numK y.N s1 t1 1)) ∧ w' = wk.drew) := numberK_any s1 t1 1 y.N (k0 + 1) wk.drew (by obtain ⟨_, _, _, _, _, _, _, y1, _⟩ := BX.out wk STK.out.gr; exact y1) (by omega) (by omega) (by omega) (by omega)
                            generalize numK y.N s t 0 = z1 at *
                            generalize numK y.N s1 t1 1 = z2 at *
                            have hln : (((x.T.take i).flatMap (rowK (setOf x.F) (setOf y.F) y.N y.T) ++ (y.T.take j).flatMap (pairK (setOf x.F) (setOf y.F) y.N ((s : Int), l, (s1 : Int)))) ++ [stepK (setOf x.F) (setOf y.F) y.N ((s : Int), l, (s1 : Int)) ((t : Int), l, (t1 : Int)) 0, stepK (setOf x.F) (setOf y.F) y.N ((s : Int), l, (s1 : Int)) ((t : Int), l, (t1 : Int)) 1].take 0).length ≤ 1000000 := HLT.out i j s l s1 _ (by simp)
                            obtain ⟨Tk, hTk⟩ : ∃ Tk, ((x.T.take i).flatMap (rowK (setOf x.F) (setOf y.F) y.N y.T) ++ (y.T.take j).flatMap (pairK (setOf x.F) (setOf y.F) y.N ((s : Int), l, (s1 : Int)))) ++ [stepK (setOf x.F) (setOf y.F) y.N ((s : Int), l, (s1 : Int)) ((t : Int), l, (t1 : Int)) 0, stepK (setOf x.F) (setOf y.F) y.N ((s : Int), l, (s1 : Int)) ((t : Int), l, (t1 : Int)) 1].take 0 = Tk := ⟨_, rfl⟩
                            rw [hTk] at STK HTx hln
                            clear hTk
                            obtain ⟨a7, c7, g7, d7, w7, hv7, hrun, c72, f72, st7, ho7⟩ := (STK.out.kept (grown_drew (grown_refl _ _) : wk.grownBy wk.drew none)).addT (by omega) (z1, l, z2)
                            subst hv7
                            have STN : Hid (StJ W3 (k0 + 1 + 1 + 1) x.L (2 * x.N * y.N) (w7.setCell ⟨k0 + 1 + 1 + 1, 3, none⟩ (.slice (some ⟨g7, 0, none⟩) (Tk.length + 1) d7)) vS (.slice (some ⟨g7, 0, none⟩) (Tk.length + 1) d7) vF (kroS x y) (((x.T.take i).flatMap (rowK (setOf x.F) (setOf y.F) y.N y.T) ++ (y.T.take j).flatMap (pairK (setOf x.F) (setOf y.F) y.N ((s : Int), l, (s1 : Int)))) ++ [stepK (setOf x.F) (setOf y.F) y.N ((s : Int), l, (s1 : Int)) ((t : Int), l, (t1 : Int)) 0, stepK (setOf x.F) (setOf y.F) y.N ((s : Int), l, (s1 : Int)) ((t : Int), l, (t1 : Int)) 1].take 1) (kroF x y) (⟨53, 3, .slice (some ⟨bv, 0, none⟩) 1 1, 1, [.int .i64 (t : Nat), .int .i64 l, .int .i64 (t1 : Nat)]⟩ :: ⟨53, 3, .slice (some ⟨bu, 0, none⟩) 1 1, 1, [.int .i64 (s : Nat), .int .i64 l, .int .i64 (s1 : Nat)]⟩ :: [tabG gB nY (setOf y.F), tabG gA nX (setOf x.F)])) := by show StJ _ _ _ _ _ _ _ _ _ _ _ _; rw [HTx.out]; exact st7
                            have SK : Hid (∀ W, wk.grownBy W none → SBx bu bv (s : Nat) l (s1 : Nat) (t : Nat) (t1 : Nat) W) := fun W hW => (SBx.of (l := l) (l' := l) (STK.out.own.1 _ (by simp)) (STK.out.own.1 _ (by simp)) : SBx bu bv (s : Nat) l (s1 : Nat) (t : Nat) (t1 : Nat) wk).kept hW
                            have SW7 : Hid (SBx bu bv (s : Nat) l (s1 : Nat) (t : Nat) (t1 : Nat) w7) := SBx.of (l := l) (l' := l) (ho7 _ (by simp)) (ho7 _ (by simp))
                            have SN9 : Hid (SBx bu bv (s : Nat) l (s1 : Nat) (t : Nat) (t1 : Nat) (w7.setCell ⟨k0 + 1 + 1 + 1, 3, none⟩ (.slice (some ⟨g7, 0, none⟩) (Tk.length + 1) d7))) := SBx.of (l := l) (l' := l) (st7.own.1 _ (by simp)) (st7.own.1 _ (by simp))
                            have cb2 := (block_cells5A STK.out.box).2.2.2.1
                            have cb3 : ∀ o, (wk.alloc o).cell? ⟨k0 + 1 + 1 + 1, 3, none⟩ = some (.slice a7 Tk.length c7) := fun o => (grown_alloc wk o).cell cb2 (by simp)
                            clear st7 ho7 HTx hln HX
                            generalize Tk.length = LL at *
                            have hrun2 : (AppS #[23, 23] 23 #[.slice a7 LL c7, .slice (some ⟨wk.heap.size, 0, none⟩) 1 1]).run Try.prog (wk.alloc (.cells #[.int .i64 z1, .int .i64 l, .int .i64 z2] 53)).drew = .ok (.slice (some ⟨g7, 0, none⟩) (LL + 1) d7) w7 := hrun
                            clear hrun STK
                            have hidx := (index_two true pB wk).1
                            go_wp2_with fail
                            refine wp_region_held_drew (S := SBx bu bv (s : Nat) l (s1 : Nat) (t : Nat) (t1 : Nat)) (by kernel_rfl) (SK.out _ (grown_drew (grown_refl _ _))) (fun hHeld => ?_)
                            refine wpAnyH_take (i := 0) (v := ?_) rfl (by kernel_rfl) (by kernel_rfl) (by kernel_rfl) (fun _ _ _ h => h) (Or.inl ⟨by rfl, ?_⟩) (by assumption) ?_
                            rotate_left
                            · intro W hSw
                              obtain ⟨q0, q1, q2, q3, q4⟩ := hSw
                              go_simp
                              with_reducible rfl
                            try simp only [Act.put, List.setIfInBounds_toArray, List.set_cons_zero, List.set_cons_succ]
                            refine wpAnyH_take (i := 2) (v := ?_) rfl (by kernel_rfl) (by kernel_rfl) (by kernel_rfl) (fun _ _ _ h => h) (Or.inl ⟨by rfl, ?_⟩) (by assumption) ?_
                            rotate_left
                            · intro W hSw
                              obtain ⟨q0, q1, q2, q3, q4⟩ := hSw
                              go_simp
                              with_reducible rfl
                            try simp only [Act.put, List.setIfInBounds_toArray, List.set_cons_zero, List.set_cons_succ]
                            refine wpAnyH_take (i := 3) (v := ?_) rfl (by kernel_rfl) (by kernel_rfl) (by kernel_rfl) (fun _ _ _ h => h) (Or.inl ⟨by rfl, ?_⟩) (by assumption) ?_
                            rotate_left
                            · intro W hSw
                              obtain ⟨q0, q1, q2, q3, q4⟩ := hSw
                              go_simp
                              with_reducible rfl
                            try simp only [Act.put, List.setIfInBounds_toArray, List.set_cons_zero, List.set_cons_succ]
                            refine wpAnyH_take (i := 4) (v := ?_) rfl (by kernel_rfl) (by kernel_rfl) (by kernel_rfl) (fun _ _ _ h => h) (Or.inl ⟨by rfl, ?_⟩) (by assumption) ?_
                            rotate_left
                            · intro W hSw
                              obtain ⟨q0, q1, q2, q3, q4⟩ := hSw
                              go_simp
                              with_reducible rfl
                            try simp only [Act.put, List.setIfInBounds_toArray, List.set_cons_zero, List.set_cons_succ]
                            refine wpAnyH_take (i := 5) (v := ?_) rfl (by kernel_rfl) (by kernel_rfl) (by kernel_rfl) (fun _ _ _ h => h) (Or.inl ⟨by rfl, ?_⟩) (by assumption) ?_
                            rotate_left
                            · intro W hSw
                              obtain ⟨q0, q1, q2, q3, q4⟩ := hSw
                              go_simp
                              with_reducible rfl
                            try simp only [Act.put, List.setIfInBounds_toArray, List.set_cons_zero, List.set_cons_succ]
                            refine wpAnyH_take (i := 6) (v := ?_) rfl (by kernel_rfl) (by kernel_rfl) (by kernel_rfl) (fun _ _ _ h => h) (Or.inl ⟨by rfl, ?_⟩) (by assumption) ?_
                            rotate_left
                            · intro W hSw
                              obtain ⟨q0, q1, q2, q3, q4⟩ := hSw
                              go_simp
                              with_reducible rfl
                            try simp only [Act.put, List.setIfInBounds_toArray, List.set_cons_zero, List.set_cons_succ]
                            refine wpAnyH_take (i := 7) (v := ?_) rfl (by kernel_rfl) (by kernel_rfl) (by kernel_rfl) (fun _ _ _ h => h) (Or.inl ⟨by rfl, ?_⟩) (by assumption) ?_
                            rotate_left
                            · intro W hSw
                              obtain ⟨q0, q1, q2, q3, q4⟩ := hSw
                              go_simp
                              with_reducible rfl
                            try simp only [Act.put, List.setIfInBounds_toArray, List.set_cons_zero, List.set_cons_succ]
                            refine wpAnyH_take (i := 9) (v := ?_) rfl (by kernel_rfl) (by kernel_rfl) (by kernel_rfl) (fun _ _ _ h => h) (Or.inl ⟨by rfl, ?_⟩) (by assumption) ?_
                            rotate_left
                            · intro W hSw
                              obtain ⟨q0, q1, q2, q3, q4⟩ := hSw
                              go_simp
                              with_reducible rfl
                            try simp only [Act.put, List.setIfInBounds_toArray, List.set_cons_zero, List.set_cons_succ]
                            refine wpAnyH_take (i := 10) (v := ?_) rfl (by kernel_rfl) (by kernel_rfl) (by kernel_rfl) (fun _ _ _ h => h) (Or.inl ⟨by rfl, ?_⟩) (by assumption) ?_
                            rotate_left
                            · intro W hSw
                              obtain ⟨q0, q1, q2, q3, q4⟩ := hSw
                              go_simp
                              with_reducible rfl
                            try simp only [Act.put, List.setIfInBounds_toArray, List.set_cons_zero, List.set_cons_succ]
                            refine wpAnyH_take (i := 11) (v := ?_) rfl (by kernel_rfl) (by kernel_rfl) (by kernel_rfl) (fun _ _ _ h => h) (Or.inl ⟨by rfl, ?_⟩) (by assumption) ?_
                            rotate_left
                            · intro W hSw
                              obtain ⟨q0, q1, q2, q3, q4⟩ := hSw
                              go_simp
                              with_reducible rfl
                            try simp only [Act.put, List.setIfInBounds_toArray, List.set_cons_zero, List.set_cons_succ]
                            refine wpAnyH_take (i := 12) (v := ?_) rfl (by kernel_rfl) (by kernel_rfl) (by kernel_rfl) (fun _ _ _ h => h) (Or.inl ⟨by rfl, ?_⟩) (by assumption) ?_
                            rotate_left
                            · intro W hSw
                              obtain ⟨q0, q1, q2, q3, q4⟩ := hSw
                              go_simp
                              with_reducible rfl
                            try simp only [Act.put, List.setIfInBounds_toArray, List.set_cons_zero, List.set_cons_succ]
                            refine wpAnyH_take (i := 13) (v := ?_) rfl (by kernel_rfl) (by kernel_rfl) (by kernel_rfl) (fun _ _ _ h => h) (Or.inl ⟨by rfl, ?_⟩) (by assumption) ?_
                            rotate_left
                            · intro W hSw
                              obtain ⟨q0, q1, q2, q3, q4⟩ := hSw
                              go_simp
                              with_reducible rfl
                            try simp only [Act.put, List.setIfInBounds_toArray, List.set_cons_zero, List.set_cons_succ]
                            refine wpAnyH_take (i := 14) (v := ?_) rfl (by kernel_rfl) (by kernel_rfl) (by kernel_rfl) (fun _ _ _ h => h) (Or.inl ⟨by rfl, ?_⟩) (by assumption) ?_
                            rotate_left
                            · intro W hSw
                              obtain ⟨q0, q1, q2, q3, q4⟩ := hSw
                              go_simp
                              with_reducible rfl
                            try simp only [Act.put, List.setIfInBounds_toArray, List.set_cons_zero, List.set_cons_succ]
                            refine wpAnyH_take (i := 15) (v := ?_) rfl (by kernel_rfl) (by kernel_rfl) (by kernel_rfl) (fun _ _ _ h => h) (Or.inl ⟨by rfl, ?_⟩) (by assumption) ?_
                            rotate_left
                            · intro W hSw
                              obtain ⟨q0, q1, q2, q3, q4⟩ := hSw
                              go_simp
                              with_reducible rfl
                            try simp only [Act.put, List.setIfInBounds_toArray, List.set_cons_zero, List.set_cons_succ]
                            refine wpAnyH_take (i := 16) (v := ?_) rfl (by kernel_rfl) (by kernel_rfl) (by kernel_rfl) (fun _ _ _ h => h) (Or.inl ⟨by rfl, ?_⟩) (by assumption) ?_
                            rotate_left
                            · intro W hSw
                              obtain ⟨q0, q1, q2, q3, q4⟩ := hSw
                              go_simp
                              with_reducible rfl
                            try simp only [Act.put, List.setIfInBounds_toArray, List.set_cons_zero, List.set_cons_succ]
                            refine wpAnyH_ready (rs := [1, 8]) (by kernel_rfl) (by simp) ?_
                            refine AllReadyH.cons (o := _) rfl (fun K' hK => ?_) ?_
                            · go_simp
                              refine hK.out _ _ (SK.out _ (grown_drew (grown_refl _ _))) (fun hHeld => ?_)
                              clear hK K'
                              try simp only [Act.put, List.setIfInBounds_toArray, List.set_cons_zero, List.set_cons_succ]
                              refine wpAnyH_ready (rs := [8]) (by kernel_rfl) (by simp) ?_
                              refine AllReadyH.cons (o := _) rfl (fun K' hK => ?_) ?_
                              · go_simp
                                refine HN1.out.mono ?_
                                rintro E wA ⟨rfl, rfl⟩
                                go_wp2_with fail
                                refine hK.out _ _ (SK.out _ (grown_drew (grown_refl _ _))) (fun hHeld => ?_)
                                clear hK K'
                                try simp only [Act.put, List.setIfInBounds_toArray, List.set_cons_zero, List.set_cons_succ]
                                refine wpAnyH_ready (rs := [17]) (by kernel_rfl) (by simp) ?_
                                refine AllReadyH.cons (o := _) rfl (fun K' hK => ?_) ?_
                                · go_simp
                                  refine HN2.out.mono ?_
                                  rintro E wA ⟨rfl, rfl⟩
                                  go_wp2_with fail
                                  refine hK.out _ _ (SK.out _ (grown_drew (grown_refl _ _))) (fun hHeld => ?_)
                                  clear hK K'
                                  try simp only [Act.put, List.setIfInBounds_toArray, List.set_cons_zero, List.set_cons_succ]
                                  refine wpAnyH_take (i := 18) (v := ?_) rfl (by kernel_rfl) (by kernel_rfl) (by kernel_rfl) (fun _ _ _ h => h) (Or.inl ⟨by rfl, ?_⟩) (by assumption) ?_
                                  rotate_left
                                  · intro W hSw
                                    obtain ⟨q0, q1, q2, q3, q4⟩ := hSw
                                    go_simp
                                    with_reducible rfl
                                  try simp only [Act.put, List.setIfInBounds_toArray, List.set_cons_zero, List.set_cons_succ]
                                  refine wpAnyH_ready (rs := [19]) (by kernel_rfl) (by simp) ?_
                                  refine AllReadyH.cons (o := _) rfl (fun K' hK => ?_) ?_
                                  · go_simp
                                    refine hK.out _ _ (SK.out _ (grown_drew (grown_alloc _ _))) (fun hHeld => ?_)
                                    clear hK K'
                                    try simp only [Act.put, List.setIfInBounds_toArray, List.set_cons_zero, List.set_cons_succ]
                                    refine wpAnyH_ready (rs := [20]) (by kernel_rfl) (by simp) ?_
                                    refine AllReadyH.cons (o := _) rfl (fun K' hK => ?_) ?_
                                    · go_simp
                                      refine hK.out _ _ (SW7.out) (fun hHeld => ?_)
                                      clear hK K'
                                      try simp only [Act.put, List.setIfInBounds_toArray, List.set_cons_zero, List.set_cons_succ]
                                      refine wpAnyH_take (i := 21) (v := ?_) rfl (by kernel_rfl) (by kernel_rfl) (by kernel_rfl) (fun _ _ _ h => h) (Or.inl ⟨by rfl, ?_⟩) (by assumption) ?_
                                      rotate_left
                                      · intro W hSw
                                        obtain ⟨q0, q1, q2, q3, q4⟩ := hSw
                                        go_simp
                                        with_reducible rfl
                                      try simp only [Act.put, List.setIfInBounds_toArray, List.set_cons_zero, List.set_cons_succ]
                                      refine wpAnyH_ready (rs := [22]) (by kernel_rfl) (by simp) ?_
                                      refine AllReadyH.cons (o := _) rfl (fun K' hK => ?_) ?_
                                      · go_simp
                                        refine hK.out _ _ (SN9.out) (fun hHeld => ?_)
                                        clear hK K'
                                        try simp only [Act.put, List.setIfInBounds_toArray, List.set_cons_zero, List.set_cons_succ]
                                        refine wpAnyH_done (by kernel_rfl) ?_ _
                                        go_wp2_with fail
                                        go_roundw
                                        case rel => exact ⟨1, _, by omega, rfl, STN.out⟩
                                        case measure => simp [intOf]
                                      exact AllReadyH.nil
                                    exact AllReadyH.nil
                                  exact AllReadyH.nil
                                exact AllReadyH.nil
                              exact AllReadyH.nil
                            refine AllReadyH.cons (o := _) rfl (fun K' hK => ?_) ?_
                            · go_simp
                              refine HN1.out.mono ?_
                              rintro E wA ⟨rfl, rfl⟩
                              go_wp2_with fail
                              refine hK.out _ _ (SK.out _ (grown_drew (grown_refl _ _))) (fun hHeld => ?_)
                              clear hK K'
                              try simp only [Act.put, List.setIfInBounds_toArray, List.set_cons_zero, List.set_cons_succ]
                              refine wpAnyH_ready (rs := [1, 17]) (by kernel_rfl) (by simp) ?_
                              refine AllReadyH.cons (o := _) rfl (fun K' hK => ?_) ?_
                              · go_simp
                                refine hK.out _ _ (SK.out _ (grown_drew (grown_refl _ _))) (fun hHeld => ?_)
                                clear hK K'
                                try simp only [Act.put, List.setIfInBounds_toArray, List.set_cons_zero, List.set_cons_succ]
                                refine wpAnyH_ready (rs := [17]) (by kernel_rfl) (by simp) ?_
                                refine AllReadyH.cons (o := _) rfl (fun K' hK => ?_) ?_
                                · go_simp
                                  refine HN2.out.mono ?_
                                  rintro E wA ⟨rfl, rfl⟩
                                  go_wp2_with fail
                                  refine hK.out _ _ (SK.out _ (grown_drew (grown_refl _ _))) (fun hHeld => ?_)
                                  clear hK K'
                                  try simp only [Act.put, List.setIfInBounds_toArray, List.set_cons_zero, List.set_cons_succ]
                                  refine wpAnyH_take (i := 18) (v := ?_) rfl (by kernel_rfl) (by kernel_rfl) (by kernel_rfl) (fun _ _ _ h => h) (Or.inl ⟨by rfl, ?_⟩) (by assumption) ?_
                                  rotate_left
                                  · intro W hSw
                                    obtain ⟨q0, q1, q2, q3, q4⟩ := hSw
                                    go_simp
                                    with_reducible rfl
                                  try simp only [Act.put, List.setIfInBounds_toArray, List.set_cons_zero, List.set_cons_succ]
                                  refine wpAnyH_ready (rs := [19]) (by kernel_rfl) (by simp) ?_
                                  refine AllReadyH.cons (o := _) rfl (fun K' hK => ?_) ?_
                                  · go_simp
                                    refine hK.out _ _ (SK.out _ (grown_drew (grown_alloc _ _))) (fun hHeld => ?_)
                                    clear hK K'
                                    try simp only [Act.put, List.setIfInBounds_toArray, List.set_cons_zero, List.set_cons_succ]
                                    refine wpAnyH_ready (rs := [20]) (by kernel_rfl) (by simp) ?_
                                    refine AllReadyH.cons (o := _) rfl (fun K' hK => ?_) ?_
                                    · go_simp
                                      refine hK.out _ _ (SW7.out) (fun hHeld => ?_)
                                      clear hK K'
                                      try simp only [Act.put, List.setIfInBounds_toArray, List.set_cons_zero, List.set_cons_succ]
                                      refine wpAnyH_take (i := 21) (v := ?_) rfl (by kernel_rfl) (by kernel_rfl) (by kernel_rfl) (fun _ _ _ h => h) (Or.inl ⟨by rfl, ?_⟩) (by assumption) ?_
                                      rotate_left
                                      · intro W hSw
                                        obtain ⟨q0, q1, q2, q3, q4⟩ := hSw
                                        go_simp
                                        with_reducible rfl
                                      try simp only [Act.put, List.setIfInBounds_toArray, List.set_cons_zero, List.set_cons_succ]
                                      refine wpAnyH_ready (rs := [22]) (by kernel_rfl) (by simp) ?_
                                      refine AllReadyH.cons (o := _) rfl (fun K' hK => ?_) ?_
                                      · go_simp
                                        refine hK.out _ _ (SN9.out) (fun hHeld => ?_)
                                        clear hK K'
                                        try simp only [Act.put, List.setIfInBounds_toArray, List.set_cons_zero, List.set_cons_succ]
                                        refine wpAnyH_done (by kernel_rfl) ?_ _
                                        go_wp2_with fail
                                        go_roundw
                                        case rel => exact ⟨1, _, by omega, rfl, STN.out⟩
                                        case measure => simp [intOf]
                                      exact AllReadyH.nil
                                    exact AllReadyH.nil
                                  exact AllReadyH.nil
                                exact AllReadyH.nil
                              refine AllReadyH.cons (o := _) rfl (fun K' hK => ?_) ?_
                              · go_simp
                                refine HN2.out.mono ?_
                                rintro E wA ⟨rfl, rfl⟩
                                go_wp2_with fail
                                refine hK.out _ _ (SK.out _ (grown_drew (grown_refl _ _))) (fun hHeld => ?_)
                                clear hK K'
                                try simp only [Act.put, List.setIfInBounds_toArray, List.set_cons_zero, List.set_cons_succ]
                                refine wpAnyH_take (i := 18) (v := ?_) rfl (by kernel_rfl) (by kernel_rfl) (by kernel_rfl) (fun _ _ _ h => h) (Or.inl ⟨by rfl, ?_⟩) (by assumption) ?_
                                rotate_left
                                · intro W hSw
                                  obtain ⟨q0, q1, q2, q3, q4⟩ := hSw
                                  go_simp
                                  with_reducible rfl
                                try simp only [Act.put, List.setIfInBounds_toArray, List.set_cons_zero, List.set_cons_succ]
                                refine wpAnyH_ready (rs := [1, 19]) (by kernel_rfl) (by simp) ?_
                                refine AllReadyH.cons (o := _) rfl (fun K' hK => ?_) ?_
                                · go_simp
                                  refine hK.out _ _ (SK.out _ (grown_drew (grown_refl _ _))) (fun hHeld => ?_)
                                  clear hK K'
                                  try simp only [Act.put, List.setIfInBounds_toArray, List.set_cons_zero, List.set_cons_succ]
                                  refine wpAnyH_ready (rs := [19]) (by kernel_rfl) (by simp) ?_
                                  refine AllReadyH.cons (o := _) rfl (fun K' hK => ?_) ?_
                                  · go_simp
                                    refine hK.out _ _ (SK.out _ (grown_drew (grown_alloc _ _))) (fun hHeld => ?_)
                                    clear hK K'
                                    try simp only [Act.put, List.setIfInBounds_toArray, List.set_cons_zero, List.set_cons_succ]
                                    refine wpAnyH_ready (rs := [20]) (by kernel_rfl) (by simp) ?_
                                    refine AllReadyH.cons (o := _) rfl (fun K' hK => ?_) ?_
                                    · go_simp
                                      refine hK.out _ _ (SW7.out) (fun hHeld => ?_)
                                      clear hK K'
                                      try simp only [Act.put, List.setIfInBounds_toArray, List.set_cons_zero, List.set_cons_succ]
                                      refine wpAnyH_take (i := 21) (v := ?_) rfl (by kernel_rfl) (by kernel_rfl) (by kernel_rfl) (fun _ _ _ h => h) (Or.inl ⟨by rfl, ?_⟩) (by assumption) ?_
                                      rotate_left
                                      · intro W hSw
                                        obtain ⟨q0, q1, q2, q3, q4⟩ := hSw
                                        go_simp
                                        with_reducible rfl
                                      try simp only [Act.put, List.setIfInBounds_toArray, List.set_cons_zero, List.set_cons_succ]
                                      refine wpAnyH_ready (rs := [22]) (by kernel_rfl) (by simp) ?_
                                      refine AllReadyH.cons (o := _) rfl (fun K' hK => ?_) ?_
                                      · go_simp
                                        refine hK.out _ _ (SN9.out) (fun hHeld => ?_)
                                        clear hK K'
                                        try simp only [Act.put, List.setIfInBounds_toArray, List.set_cons_zero, List.set_cons_succ]
                                        refine wpAnyH_done (by kernel_rfl) ?_ _
                                        go_wp2_with fail
                                        go_roundw
                                        case rel => exact ⟨1, _, by omega, rfl, STN.out⟩
                                        case measure => simp [intOf]
                                      exact AllReadyH.nil
                                    exact AllReadyH.nil
                                  exact AllReadyH.nil
                                refine AllReadyH.cons (o := _) rfl (fun K' hK => ?_) ?_
                                · go_simp
                                  refine hK.out _ _ (SK.out _ (grown_drew (grown_alloc _ _))) (fun hHeld => ?_)
                                  clear hK K'
                                  try simp only [Act.put, List.setIfInBounds_toArray, List.set_cons_zero, List.set_cons_succ]
                                  refine wpAnyH_ready (rs := [1]) (by kernel_rfl) (by simp) ?_
                                  refine AllReadyH.cons (o := _) rfl (fun K' hK => ?_) ?_
                                  · go_simp
                                    refine hK.out _ _ (SK.out _ (grown_drew (grown_alloc _ _))) (fun hHeld => ?_)
                                    clear hK K'
                                    try simp only [Act.put, List.setIfInBounds_toArray, List.set_cons_zero, List.set_cons_succ]
                                    refine wpAnyH_ready (rs := [20]) (by kernel_rfl) (by simp) ?_
                                    refine AllReadyH.cons (o := _) rfl (fun K' hK => ?_) ?_
                                    · go_simp
                                      refine hK.out _ _ (SW7.out) (fun hHeld => ?_)
                                      clear hK K'
                                      try simp only [Act.put, List.setIfInBounds_toArray, List.set_cons_zero, List.set_cons_succ]
                                      refine wpAnyH_take (i := 21) (v := ?_) rfl (by kernel_rfl) (by kernel_rfl) (by kernel_rfl) (fun _ _ _ h => h) (Or.inl ⟨by rfl, ?_⟩) (by assumption) ?_
                                      rotate_left
                                      · intro W hSw
                                        obtain ⟨q0, q1, q2, q3, q4⟩ := hSw
                                        go_simp
                                        with_reducible rfl
                                      try simp only [Act.put, List.setIfInBounds_toArray, List.set_cons_zero, List.set_cons_succ]
                                      refine wpAnyH_ready (rs := [22]) (by kernel_rfl) (by simp) ?_
                                      refine AllReadyH.cons (o := _) rfl (fun K' hK => ?_) ?_
                                      · go_simp
                                        refine hK.out _ _ (SN9.out) (fun hHeld => ?_)
                                        clear hK K'
                                        try simp only [Act.put, List.setIfInBounds_toArray, List.set_cons_zero, List.set_cons_succ]
                                        refine wpAnyH_done (by kernel_rfl) ?_ _
                                        go_wp2_with fail
                                        go_roundw
                                        case rel => exact ⟨1, _, by omega, rfl, STN.out⟩
                                        case measure => simp [intOf]
                                      exact AllReadyH.nil
                                    exact AllReadyH.nil
                                  exact AllReadyH.nil
                                exact AllReadyH.nil
                              exact AllReadyH.nil
                            exact AllReadyH.nil
                          | false =>
                            have HX : Hid (nxW (setOf x.F) (setOf y.F) s t 0 = 0) := by show _ = _; unfold nxW; simp [HpA.out]
                            have HTx : Hid (((x.T.take i).flatMap (rowK (setOf x.F) (setOf y.F) y.N y.T) ++ (y.T.take j).flatMap (pairK (setOf x.F) (setOf y.F) y.N ((s : Int), l, (s1 : Int)))) ++ [stepK (setOf x.F) (setOf y.F) y.N ((s : Int), l, (s1 : Int)) ((t : Int), l, (t1 : Int)) 0, stepK (setOf x.F) (setOf y.F) y.N ((s : Int), l, (s1 : Int)) ((t : Int), l, (t1 : Int)) 1].take 1 = (((x.T.take i).flatMap (rowK (setOf x.F) (setOf y.F) y.N y.T) ++ (y.T.take j).flatMap (pairK (setOf x.F) (setOf y.F) y.N ((s : Int), l, (s1 : Int)))) ++ [stepK (setOf x.F) (setOf y.F) y.N ((s : Int), l, (s1 : Int)) ((t : Int), l, (t1 : Int)) 0, stepK (setOf x.F) (setOf y.F) y.N ((s : Int), l, (s1 : Int)) ((t : Int), l, (t1 : Int)) 1].take 0) ++ [(numK y.N s t 0, l, numK y.N s1 t1 0)]) := by
                              show _ = _
                              rw [stepK_at, stepK_at]
                              have e := HX.out
                              simp [e]
                            have HN1 : Hid (Calls Try.prog 52 #[.int .i64 (s : Nat), .int .i64 (t : Nat), .int .i64 0, .pointer (some ⟨k0 + 1, 0, none⟩)] wk.drew fun e w' => e = .returned (.int .i64 (numK y.N s t 0)) ∧ w' = wk.drew) := numberK_any s t 0 y.N (k0 + 1) wk.drew (by obtain ⟨_, _, _, _, _, _, _, y1, _⟩ := BX.out wk STK.out.gr; exact y1) (by omega) (by omega) (by omega) (by omega)
                            have HN2 : Hid (Calls Try.prog 52 #[.int .i64 (s1 : Nat), .int .i64 (t1 : Nat), .int .i64 0, .pointer (some ⟨k0 + 1, 0, none⟩)] wk.drew fun e w' => e = .returned (.int .i64 (numK y.N s1 t1 0)) ∧ w' = wk.drew) := numberK_any s1 t1 0 y.N (k0 + 1) wk.drew (by obtain ⟨_, _, _, _, _, _, _, y1, _⟩ := BX.out wk STK.out.gr; exact y1) (by omega) (by omega) (by omega) (by omega)
                            generalize numK y.N s t 0 = z1 at *
                            generalize numK y.N s1 t1 0 = z2 at *
                            have hln : (((x.T.take i).flatMap (rowK (setOf x.F) (setOf y.F) y.N y.T) ++ (y.T.take j).flatMap (pairK (setOf x.F) (setOf y.F) y.N ((s : Int), l, (s1 : Int)))) ++ [stepK (setOf x.F) (setOf y.F) y.N ((s : Int), l, (s1 : Int)) ((t : Int), l, (t1 : Int)) 0, stepK (setOf x.F) (setOf y.F) y.N ((s : Int), l, (s1 : Int)) ((t : Int), l, (t1 : Int)) 1].take 0).length ≤ 1000000 := HLT.out i j s l s1 _ (by simp)
                            obtain ⟨Tk, hTk⟩ : ∃ Tk, ((x.T.take i).flatMap (rowK (setOf x.F) (setOf y.F) y.N y.T) ++ (y.T.take j).flatMap (pairK (setOf x.F) (setOf y.F) y.N ((s : Int), l, (s1 : Int)))) ++ [stepK (setOf x.F) (setOf y.F) y.N ((s : Int), l, (s1 : Int)) ((t : Int), l, (t1 : Int)) 0, stepK (setOf x.F) (setOf y.F) y.N ((s : Int), l, (s1 : Int)) ((t : Int), l, (t1 : Int)) 1].take 0 = Tk := ⟨_, rfl⟩
                            rw [hTk] at STK HTx hln
                            clear hTk
                            obtain ⟨a7, c7, g7, d7, w7, hv7, hrun, c72, f72, st7, ho7⟩ := (STK.out.kept (grown_drew (grown_refl _ _) : wk.grownBy wk.drew none)).addT (by omega) (z1, l, z2)
                            subst hv7
                            have STN : Hid (StJ W3 (k0 + 1 + 1 + 1) x.L (2 * x.N * y.N) (w7.setCell ⟨k0 + 1 + 1 + 1, 3, none⟩ (.slice (some ⟨g7, 0, none⟩) (Tk.length + 1) d7)) vS (.slice (some ⟨g7, 0, none⟩) (Tk.length + 1) d7) vF (kroS x y) (((x.T.take i).flatMap (rowK (setOf x.F) (setOf y.F) y.N y.T) ++ (y.T.take j).flatMap (pairK (setOf x.F) (setOf y.F) y.N ((s : Int), l, (s1 : Int)))) ++ [stepK (setOf x.F) (setOf y.F) y.N ((s : Int), l, (s1 : Int)) ((t : Int), l, (t1 : Int)) 0, stepK (setOf x.F) (setOf y.F) y.N ((s : Int), l, (s1 : Int)) ((t : Int), l, (t1 : Int)) 1].take 1) (kroF x y) (⟨53, 3, .slice (some ⟨bv, 0, none⟩) 1 1, 1, [.int .i64 (t : Nat), .int .i64 l, .int .i64 (t1 : Nat)]⟩ :: ⟨53, 3, .slice (some ⟨bu, 0, none⟩) 1 1, 1, [.int .i64 (s : Nat), .int .i64 l, .int .i64 (s1 : Nat)]⟩ :: [tabG gB nY (setOf y.F), tabG gA nX (setOf x.F)])) := by show StJ _ _ _ _ _ _ _ _ _ _ _ _; rw [HTx.out]; exact st7
                            have SK : Hid (∀ W, wk.grownBy W none → SBx bu bv (s : Nat) l (s1 : Nat) (t : Nat) (t1 : Nat) W) := fun W hW => (SBx.of (l := l) (l' := l) (STK.out.own.1 _ (by simp)) (STK.out.own.1 _ (by simp)) : SBx bu bv (s : Nat) l (s1 : Nat) (t : Nat) (t1 : Nat) wk).kept hW
                            have SW7 : Hid (SBx bu bv (s : Nat) l (s1 : Nat) (t : Nat) (t1 : Nat) w7) := SBx.of (l := l) (l' := l) (ho7 _ (by simp)) (ho7 _ (by simp))
                            have SN9 : Hid (SBx bu bv (s : Nat) l (s1 : Nat) (t : Nat) (t1 : Nat) (w7.setCell ⟨k0 + 1 + 1 + 1, 3, none⟩ (.slice (some ⟨g7, 0, none⟩) (Tk.length + 1) d7))) := SBx.of (l := l) (l' := l) (st7.own.1 _ (by simp)) (st7.own.1 _ (by simp))
                            have cb2 := (block_cells5A STK.out.box).2.2.2.1
                            have cb3 : ∀ o, (wk.alloc o).cell? ⟨k0 + 1 + 1 + 1, 3, none⟩ = some (.slice a7 Tk.length c7) := fun o => (grown_alloc wk o).cell cb2 (by simp)
                            clear st7 ho7 HTx hln HX
                            generalize Tk.length = LL at *
                            have hrun2 : (AppS #[23, 23] 23 #[.slice a7 LL c7, .slice (some ⟨wk.heap.size, 0, none⟩) 1 1]).run Try.prog (wk.alloc (.cells #[.int .i64 z1, .int .i64 l, .int .i64 z2] 53)).drew = .ok (.slice (some ⟨g7, 0, none⟩) (LL + 1) d7) w7 := hrun
                            clear hrun STK
                            have hidx := (index_two false pB wk).1
                            go_wp2_with fail
                            refine wp_region_held_drew (S := SBx bu bv (s : Nat) l (s1 : Nat) (t : Nat) (t1 : Nat)) (by kernel_rfl) (SK.out _ (grown_drew (grown_refl _ _))) (fun hHeld => ?_)
                            refine wpAnyH_take (i := 0) (v := ?_) rfl (by kernel_rfl) (by kernel_rfl) (by kernel_rfl) (fun _ _ _ h => h) (Or.inl ⟨by rfl, ?_⟩) (by assumption) ?_
                            rotate_left
                            · intro W hSw
                              obtain ⟨q0, q1, q2, q3, q4⟩ := hSw
                              go_simp
                              with_reducible rfl
                            try simp only [Act.put, List.setIfInBounds_toArray, List.set_cons_zero, List.set_cons_succ]
                            refine wpAnyH_take (i := 2) (v := ?_) rfl (by kernel_rfl) (by kernel_rfl) (by kernel_rfl) (fun _ _ _ h => h) (Or.inl ⟨by rfl, ?_⟩) (by assumption) ?_
                            rotate_left
                            · intro W hSw
                              obtain ⟨q0, q1, q2, q3, q4⟩ := hSw
                              go_simp
                              with_reducible rfl
                            try simp only [Act.put, List.setIfInBounds_toArray, List.set_cons_zero, List.set_cons_succ]
                            refine wpAnyH_take (i := 3) (v := ?_) rfl (by kernel_rfl) (by kernel_rfl) (by kernel_rfl) (fun _ _ _ h => h) (Or.inl ⟨by rfl, ?_⟩) (by assumption) ?_
                            rotate_left
                            · intro W hSw
                              obtain ⟨q0, q1, q2, q3, q4⟩ := hSw
                              go_simp
                              with_reducible rfl
                            try simp only [Act.put, List.setIfInBounds_toArray, List.set_cons_zero, List.set_cons_succ]
                            refine wpAnyH_take (i := 4) (v := ?_) rfl (by kernel_rfl) (by kernel_rfl) (by kernel_rfl) (fun _ _ _ h => h) (Or.inl ⟨by rfl, ?_⟩) (by assumption) ?_
                            rotate_left
                            · intro W hSw
                              obtain ⟨q0, q1, q2, q3, q4⟩ := hSw
                              go_simp
                              with_reducible rfl
                            try simp only [Act.put, List.setIfInBounds_toArray, List.set_cons_zero, List.set_cons_succ]
                            refine wpAnyH_take (i := 5) (v := ?_) rfl (by kernel_rfl) (by kernel_rfl) (by kernel_rfl) (fun _ _ _ h => h) (Or.inl ⟨by rfl, ?_⟩) (by assumption) ?_
                            rotate_left
                            · intro W hSw
                              obtain ⟨q0, q1, q2, q3, q4⟩ := hSw
                              go_simp
                              with_reducible rfl
                            try simp only [Act.put, List.setIfInBounds_toArray, List.set_cons_zero, List.set_cons_succ]
                            refine wpAnyH_take (i := 6) (v := ?_) rfl (by kernel_rfl) (by kernel_rfl) (by kernel_rfl) (fun _ _ _ h => h) (Or.inl ⟨by rfl, ?_⟩) (by assumption) ?_
                            rotate_left
                            · intro W hSw
                              obtain ⟨q0, q1, q2, q3, q4⟩ := hSw
                              go_simp
                              with_reducible rfl
                            try simp only [Act.put, List.setIfInBounds_toArray, List.set_cons_zero, List.set_cons_succ]
                            refine wpAnyH_take (i := 7) (v := ?_) rfl (by kernel_rfl) (by kernel_rfl) (by kernel_rfl) (fun _ _ _ h => h) (Or.inl ⟨by rfl, ?_⟩) (by assumption) ?_
                            rotate_left
                            · intro W hSw
                              obtain ⟨q0, q1, q2, q3, q4⟩ := hSw
                              go_simp
                              with_reducible rfl
                            try simp only [Act.put, List.setIfInBounds_toArray, List.set_cons_zero, List.set_cons_succ]
                            refine wpAnyH_take (i := 9) (v := ?_) rfl (by kernel_rfl) (by kernel_rfl) (by kernel_rfl) (fun _ _ _ h => h) (Or.inl ⟨by rfl, ?_⟩) (by assumption) ?_
                            rotate_left
                            · intro W hSw
                              obtain ⟨q0, q1, q2, q3, q4⟩ := hSw
                              go_simp
                              with_reducible rfl
                            try simp only [Act.put, List.setIfInBounds_toArray, List.set_cons_zero, List.set_cons_succ]
                            refine wpAnyH_take (i := 10) (v := ?_) rfl (by kernel_rfl) (by kernel_rfl) (by kernel_rfl) (fun _ _ _ h => h) (Or.inl ⟨by rfl, ?_⟩) (by assumption) ?_
                            rotate_left
                            · intro W hSw
                              obtain ⟨q0, q1, q2, q3, q4⟩ := hSw
                              go_simp
                              with_reducible rfl
                            try simp only [Act.put, List.setIfInBounds_toArray, List.set_cons_zero, List.set_cons_succ]
                            refine wpAnyH_take (i := 11) (v := ?_) rfl (by kernel_rfl) (by kernel_rfl) (by kernel_rfl) (fun _ _ _ h => h) (Or.inl ⟨by rfl, ?_⟩) (by assumption) ?_
                            rotate_left
                            · intro W hSw
                              obtain ⟨q0, q1, q2, q3, q4⟩ := hSw
                              go_simp
                              with_reducible rfl
                            try simp only [Act.put, List.setIfInBounds_toArray, List.set_cons_zero, List.set_cons_succ]
                            refine wpAnyH_take (i := 12) (v := ?_) rfl (by kernel_rfl) (by kernel_rfl) (by kernel_rfl) (fun _ _ _ h => h) (Or.inl ⟨by rfl, ?_⟩) (by assumption) ?_
                            rotate_left
                            · intro W hSw
                              obtain ⟨q0, q1, q2, q3, q4⟩ := hSw
                              go_simp
                              with_reducible rfl
                            try simp only [Act.put, List.setIfInBounds_toArray, List.set_cons_zero, List.set_cons_succ]
                            refine wpAnyH_take (i := 13) (v := ?_) rfl (by kernel_rfl) (by kernel_rfl) (by kernel_rfl) (fun _ _ _ h => h) (Or.inl ⟨by rfl, ?_⟩) (by assumption) ?_
                            rotate_left
                            · intro W hSw
                              obtain ⟨q0, q1, q2, q3, q4⟩ := hSw
                              go_simp
                              with_reducible rfl
                            try simp only [Act.put, List.setIfInBounds_toArray, List.set_cons_zero, List.set_cons_succ]
                            refine wpAnyH_take (i := 14) (v := ?_) rfl (by kernel_rfl) (by kernel_rfl) (by kernel_rfl) (fun _ _ _ h => h) (Or.inl ⟨by rfl, ?_⟩) (by assumption) ?_
                            rotate_left
                            · intro W hSw
                              obtain ⟨q0, q1, q2, q3, q4⟩ := hSw
                              go_simp
                              with_reducible rfl
                            try simp only [Act.put, List.setIfInBounds_toArray, List.set_cons_zero, List.set_cons_succ]
                            refine wpAnyH_take (i := 15) (v := ?_) rfl (by kernel_rfl) (by kernel_rfl) (by kernel_rfl) (fun _ _ _ h => h) (Or.inl ⟨by rfl, ?_⟩) (by assumption) ?_
                            rotate_left
                            · intro W hSw
                              obtain ⟨q0, q1, q2, q3, q4⟩ := hSw
                              go_simp
                              with_reducible rfl
                            try simp only [Act.put, List.setIfInBounds_toArray, List.set_cons_zero, List.set_cons_succ]
                            refine wpAnyH_take (i := 16) (v := ?_) rfl (by kernel_rfl) (by kernel_rfl) (by kernel_rfl) (fun _ _ _ h => h) (Or.inl ⟨by rfl, ?_⟩) (by assumption) ?_
                            rotate_left
                            · intro W hSw
                              obtain ⟨q0, q1, q2, q3, q4⟩ := hSw
                              go_simp
                              with_reducible rfl
                            try simp only [Act.put, List.setIfInBounds_toArray, List.set_cons_zero, List.set_cons_succ]
                            refine wpAnyH_ready (rs := [1, 8]) (by kernel_rfl) (by simp) ?_
                            refine AllReadyH.cons (o := _) rfl (fun K' hK => ?_) ?_
                            · go_simp
                              refine hK.out _ _ (SK.out _ (grown_drew (grown_refl _ _))) (fun hHeld => ?_)
                              clear hK K'
                              try simp only [Act.put, List.setIfInBounds_toArray, List.set_cons_zero, List.set_cons_succ]
                              refine wpAnyH_ready (rs := [8]) (by kernel_rfl) (by simp) ?_
                              refine AllReadyH.cons (o := _) rfl (fun K' hK => ?_) ?_
                              · go_simp
                                refine HN1.out.mono ?_
                                rintro E wA ⟨rfl, rfl⟩
                                go_wp2_with fail
                                refine hK.out _ _ (SK.out _ (grown_drew (grown_refl _ _))) (fun hHeld => ?_)
                                clear hK K'
                                try simp only [Act.put, List.setIfInBounds_toArray, List.set_cons_zero, List.set_cons_succ]
                                refine wpAnyH_ready (rs := [17]) (by kernel_rfl) (by simp) ?_
                                refine AllReadyH.cons (o := _) rfl (fun K' hK => ?_) ?_
                                · go_simp
                                  refine HN2.out.mono ?_
                                  rintro E wA ⟨rfl, rfl⟩
                                  go_wp2_with fail
                                  refine hK.out _ _ (SK.out _ (grown_drew (grown_refl _ _))) (fun hHeld => ?_)
                                  clear hK K'
                                  try simp only [Act.put, List.setIfInBounds_toArray, List.set_cons_zero, List.set_cons_succ]
                                  refine wpAnyH_take (i := 18) (v := ?_) rfl (by kernel_rfl) (by kernel_rfl) (by kernel_rfl) (fun _ _ _ h => h) (Or.inl ⟨by rfl, ?_⟩) (by assumption) ?_
                                  rotate_left
                                  · intro W hSw
                                    obtain ⟨q0, q1, q2, q3, q4⟩ := hSw
                                    go_simp
                                    with_reducible rfl
                                  try simp only [Act.put, List.setIfInBounds_toArray, List.set_cons_zero, List.set_cons_succ]
                                  refine wpAnyH_ready (rs := [19]) (by kernel_rfl) (by simp) ?_
                                  refine AllReadyH.cons (o := _) rfl (fun K' hK => ?_) ?_
                                  · go_simp
                                    refine hK.out _ _ (SK.out _ (grown_drew (grown_alloc _ _))) (fun hHeld => ?_)
                                    clear hK K'
                                    try simp only [Act.put, List.setIfInBounds_toArray, List.set_cons_zero, List.set_cons_succ]
                                    refine wpAnyH_ready (rs := [20]) (by kernel_rfl) (by simp) ?_
                                    refine AllReadyH.cons (o := _) rfl (fun K' hK => ?_) ?_
                                    · go_simp
                                      refine hK.out _ _ (SW7.out) (fun hHeld => ?_)
                                      clear hK K'
                                      try simp only [Act.put, List.setIfInBounds_toArray, List.set_cons_zero, List.set_cons_succ]
                                      refine wpAnyH_take (i := 21) (v := ?_) rfl (by kernel_rfl) (by kernel_rfl) (by kernel_rfl) (fun _ _ _ h => h) (Or.inl ⟨by rfl, ?_⟩) (by assumption) ?_
                                      rotate_left
                                      · intro W hSw
                                        obtain ⟨q0, q1, q2, q3, q4⟩ := hSw
                                        go_simp
                                        with_reducible rfl
                                      try simp only [Act.put, List.setIfInBounds_toArray, List.set_cons_zero, List.set_cons_succ]
                                      refine wpAnyH_ready (rs := [22]) (by kernel_rfl) (by simp) ?_
                                      refine AllReadyH.cons (o := _) rfl (fun K' hK => ?_) ?_
                                      · go_simp
                                        refine hK.out _ _ (SN9.out) (fun hHeld => ?_)
                                        clear hK K'
                                        try simp only [Act.put, List.setIfInBounds_toArray, List.set_cons_zero, List.set_cons_succ]
                                        refine wpAnyH_done (by kernel_rfl) ?_ _
                                        go_wp2_with fail
                                        go_roundw
                                        case rel => exact ⟨1, _, by omega, rfl, STN.out⟩
                                        case measure => simp [intOf]
                                      exact AllReadyH.nil
                                    exact AllReadyH.nil
                                  exact AllReadyH.nil
                                exact AllReadyH.nil
                              exact AllReadyH.nil
                            refine AllReadyH.cons (o := _) rfl (fun K' hK => ?_) ?_
                            · go_simp
                              refine HN1.out.mono ?_
                              rintro E wA ⟨rfl, rfl⟩
                              go_wp2_with fail
                              refine hK.out _ _ (SK.out _ (grown_drew (grown_refl _ _))) (fun hHeld => ?_)
                              clear hK K'
                              try simp only [Act.put, List.setIfInBounds_toArray, List.set_cons_zero, List.set_cons_succ]
                              refine wpAnyH_ready (rs := [1, 17]) (by kernel_rfl) (by simp) ?_
                              refine AllReadyH.cons (o := _) rfl (fun K' hK => ?_) ?_
                              · go_simp
                                refine hK.out _ _ (SK.out _ (grown_drew (grown_refl _ _))) (fun hHeld => ?_)
                                clear hK K'
                                try simp only [Act.put, List.setIfInBounds_toArray, List.set_cons_zero, List.set_cons_succ]
                                refine wpAnyH_ready (rs := [17]) (by kernel_rfl) (by simp) ?_
                                refine AllReadyH.cons (o := _) rfl (fun K' hK => ?_) ?_
                                · go_simp
                                  refine HN2.out.mono ?_
                                  rintro E wA ⟨rfl, rfl⟩
                                  go_wp2_with fail
                                  refine hK.out _ _ (SK.out _ (grown_drew (grown_refl _ _))) (fun hHeld => ?_)
                                  clear hK K'
                                  try simp only [Act.put, List.setIfInBounds_toArray, List.set_cons_zero, List.set_cons_succ]
                                  refine wpAnyH_take (i := 18) (v := ?_) rfl (by kernel_rfl) (by kernel_rfl) (by kernel_rfl) (fun _ _ _ h => h) (Or.inl ⟨by rfl, ?_⟩) (by assumption) ?_
                                  rotate_left
                                  · intro W hSw
                                    obtain ⟨q0, q1, q2, q3, q4⟩ := hSw
                                    go_simp
                                    with_reducible rfl
                                  try simp only [Act.put, List.setIfInBounds_toArray, List.set_cons_zero, List.set_cons_succ]
                                  refine wpAnyH_ready (rs := [19]) (by kernel_rfl) (by simp) ?_
                                  refine AllReadyH.cons (o := _) rfl (fun K' hK => ?_) ?_
                                  · go_simp
                                    refine hK.out _ _ (SK.out _ (grown_drew (grown_alloc _ _))) (fun hHeld => ?_)
                                    clear hK K'
                                    try simp only [Act.put, List.setIfInBounds_toArray, List.set_cons_zero, List.set_cons_succ]
                                    refine wpAnyH_ready (rs := [20]) (by kernel_rfl) (by simp) ?_
                                    refine AllReadyH.cons (o := _) rfl (fun K' hK => ?_) ?_
                                    · go_simp
                                      refine hK.out _ _ (SW7.out) (fun hHeld => ?_)
                                      clear hK K'
                                      try simp only [Act.put, List.setIfInBounds_toArray, List.set_cons_zero, List.set_cons_succ]
                                      refine wpAnyH_take (i := 21) (v := ?_) rfl (by kernel_rfl) (by kernel_rfl) (by kernel_rfl) (fun _ _ _ h => h) (Or.inl ⟨by rfl, ?_⟩) (by assumption) ?_
                                      rotate_left
                                      · intro W hSw
                                        obtain ⟨q0, q1, q2, q3, q4⟩ := hSw
                                        go_simp
                                        with_reducible rfl
                                      try simp only [Act.put, List.setIfInBounds_toArray, List.set_cons_zero, List.set_cons_succ]
                                      refine wpAnyH_ready (rs := [22]) (by kernel_rfl) (by simp) ?_
                                      refine AllReadyH.cons (o := _) rfl (fun K' hK => ?_) ?_
                                      · go_simp
                                        refine hK.out _ _ (SN9.out) (fun hHeld => ?_)
                                        clear hK K'
                                        try simp only [Act.put, List.setIfInBounds_toArray, List.set_cons_zero, List.set_cons_succ]
                                        refine wpAnyH_done (by kernel_rfl) ?_ _
                                        go_wp2_with fail
                                        go_roundw
                                        case rel => exact ⟨1, _, by omega, rfl, STN.out⟩
                                        case measure => simp [intOf]
                                      exact AllReadyH.nil
                                    exact AllReadyH.nil
                                  exact AllReadyH.nil
                                exact AllReadyH.nil
                              refine AllReadyH.cons (o := _) rfl (fun K' hK => ?_) ?_
                              · go_simp
                                refine HN2.out.mono ?_
                                rintro E wA ⟨rfl, rfl⟩
                                go_wp2_with fail
                                refine hK.out _ _ (SK.out _ (grown_drew (grown_refl _ _))) (fun hHeld => ?_)
                                clear hK K'
                                try simp only [Act.put, List.setIfInBounds_toArray, List.set_cons_zero, List.set_cons_succ]
                                refine wpAnyH_take (i := 18) (v := ?_) rfl (by kernel_rfl) (by kernel_rfl) (by kernel_rfl) (fun _ _ _ h => h) (Or.inl ⟨by rfl, ?_⟩) (by assumption) ?_
                                rotate_left
                                · intro W hSw
                                  obtain ⟨q0, q1, q2, q3, q4⟩ := hSw
                                  go_simp
                                  with_reducible rfl
                                try simp only [Act.put, List.setIfInBounds_toArray, List.set_cons_zero, List.set_cons_succ]
                                refine wpAnyH_ready (rs := [1, 19]) (by kernel_rfl) (by simp) ?_
                                refine AllReadyH.cons (o := _) rfl (fun K' hK => ?_) ?_
                                · go_simp
                                  refine hK.out _ _ (SK.out _ (grown_drew (grown_refl _ _))) (fun hHeld => ?_)
                                  clear hK K'
                                  try simp only [Act.put, List.setIfInBounds_toArray, List.set_cons_zero, List.set_cons_succ]
                                  refine wpAnyH_ready (rs := [19]) (by kernel_rfl) (by simp) ?_
                                  refine AllReadyH.cons (o := _) rfl (fun K' hK => ?_) ?_
                                  · go_simp
                                    refine hK.out _ _ (SK.out _ (grown_drew (grown_alloc _ _))) (fun hHeld => ?_)
                                    clear hK K'
                                    try simp only [Act.put, List.setIfInBounds_toArray, List.set_cons_zero, List.set_cons_succ]
                                    refine wpAnyH_ready (rs := [20]) (by kernel_rfl) (by simp) ?_
                                    refine AllReadyH.cons (o := _) rfl (fun K' hK => ?_) ?_
                                    · go_simp
                                      refine hK.out _ _ (SW7.out) (fun hHeld => ?_)
                                      clear hK K'
                                      try simp only [Act.put, List.setIfInBounds_toArray, List.set_cons_zero, List.set_cons_succ]
                                      refine wpAnyH_take (i := 21) (v := ?_) rfl (by kernel_rfl) (by kernel_rfl) (by kernel_rfl) (fun _ _ _ h => h) (Or.inl ⟨by rfl, ?_⟩) (by assumption) ?_
                                      rotate_left
                                      · intro W hSw
                                        obtain ⟨q0, q1, q2, q3, q4⟩ := hSw
                                        go_simp
                                        with_reducible rfl
                                      try simp only [Act.put, List.setIfInBounds_toArray, List.set_cons_zero, List.set_cons_succ]
                                      refine wpAnyH_ready (rs := [22]) (by kernel_rfl) (by simp) ?_
                                      refine AllReadyH.cons (o := _) rfl (fun K' hK => ?_) ?_
                                      · go_simp
                                        refine hK.out _ _ (SN9.out) (fun hHeld => ?_)
                                        clear hK K'
                                        try simp only [Act.put, List.setIfInBounds_toArray, List.set_cons_zero, List.set_cons_succ]
                                        refine wpAnyH_done (by kernel_rfl) ?_ _
                                        go_wp2_with fail
                                        go_roundw
                                        case rel => exact ⟨1, _, by omega, rfl, STN.out⟩
                                        case measure => simp [intOf]
                                      exact AllReadyH.nil
                                    exact AllReadyH.nil
                                  exact AllReadyH.nil
                                refine AllReadyH.cons (o := _) rfl (fun K' hK => ?_) ?_
                                · go_simp
                                  refine hK.out _ _ (SK.out _ (grown_drew (grown_alloc _ _))) (fun hHeld => ?_)
                                  clear hK K'
                                  try simp only [Act.put, List.setIfInBounds_toArray, List.set_cons_zero, List.set_cons_succ]
                                  refine wpAnyH_ready (rs := [1]) (by kernel_rfl) (by simp) ?_
                                  refine AllReadyH.cons (o := _) rfl (fun K' hK => ?_) ?_
                                  · go_simp
                                    refine hK.out _ _ (SK.out _ (grown_drew (grown_alloc _ _))) (fun hHeld => ?_)
                                    clear hK K'
                                    try simp only [Act.put, List.setIfInBounds_toArray, List.set_cons_zero, List.set_cons_succ]
                                    refine wpAnyH_ready (rs := [20]) (by kernel_rfl) (by simp) ?_
                                    refine AllReadyH.cons (o := _) rfl (fun K' hK => ?_) ?_
                                    · go_simp
                                      refine hK.out _ _ (SW7.out) (fun hHeld => ?_)
                                      clear hK K'
                                      try simp only [Act.put, List.setIfInBounds_toArray, List.set_cons_zero, List.set_cons_succ]
                                      refine wpAnyH_take (i := 21) (v := ?_) rfl (by kernel_rfl) (by kernel_rfl) (by kernel_rfl) (fun _ _ _ h => h) (Or.inl ⟨by rfl, ?_⟩) (by assumption) ?_
                                      rotate_left
                                      · intro W hSw
                                        obtain ⟨q0, q1, q2, q3, q4⟩ := hSw
                                        go_simp
                                        with_reducible rfl
                                      try simp only [Act.put, List.setIfInBounds_toArray, List.set_cons_zero, List.set_cons_succ]
                                      refine wpAnyH_ready (rs := [22]) (by kernel_rfl) (by simp) ?_
                                      refine AllReadyH.cons (o := _) rfl (fun K' hK => ?_) ?_
                                      · go_simp
                                        refine hK.out _ _ (SN9.out) (fun hHeld => ?_)
                                        clear hK K'
                                        try simp only [Act.put, List.setIfInBounds_toArray, List.set_cons_zero, List.set_cons_succ]
                                        refine wpAnyH_done (by kernel_rfl) ?_ _
                                        go_wp2_with fail
                                        go_roundw
                                        case rel => exact ⟨1, _, by omega, rfl, STN.out⟩
                                        case measure => simp [intOf]
                                      exact AllReadyH.nil
                                    exact AllReadyH.nil
                                  exact AllReadyH.nil
                                exact AllReadyH.nil
                              exact AllReadyH.nil
                            exact AllReadyH.nil
                        · have STK : Hid (StJ W3 (k0 + 1 + 1 + 1) x.L (2 * x.N * y.N) wk vS vT vF (kroS x y) (((x.T.take i).flatMap (rowK (setOf x.F) (setOf y.F) y.N y.T) ++ (y.T.take j).flatMap (pairK (setOf x.F) (setOf y.F) y.N ((s : Int), l, (s1 : Int)))) ++ [stepK (setOf x.F) (setOf y.F) y.N ((s : Int), l, (s1 : Int)) ((t : Int), l, (t1 : Int)) 0, stepK (setOf x.F) (setOf y.F) y.N ((s : Int), l, (s1 : Int)) ((t : Int), l, (t1 : Int)) 1].take 1) (kroF x y) (⟨53, 3, .slice (some ⟨bv, 0, none⟩) 1 1, 1, [.int .i64 (t : Nat), .int .i64 l, .int .i64 (t1 : Nat)]⟩ :: ⟨53, 3, .slice (some ⟨bu, 0, none⟩) 1 1, 1, [.int .i64 (s : Nat), .int .i64 l, .int .i64 (s1 : Nat)]⟩ :: [tabG gB nY (setOf y.F), tabG gA nX (setOf x.F)])) := hst
                          clear hst hk
                          cases pB with
                          | true =>
                            have HX : Hid (nxW (setOf x.F) (setOf y.F) s t 1 = 0) := by show _ = _; unfold nxW; simp [HpB.out]
                            have HTx : Hid (((x.T.take i).flatMap (rowK (setOf x.F) (setOf y.F) y.N y.T) ++ (y.T.take j).flatMap (pairK (setOf x.F) (setOf y.F) y.N ((s : Int), l, (s1 : Int)))) ++ [stepK (setOf x.F) (setOf y.F) y.N ((s : Int), l, (s1 : Int)) ((t : Int), l, (t1 : Int)) 0, stepK (setOf x.F) (setOf y.F) y.N ((s : Int), l, (s1 : Int)) ((t : Int), l, (t1 : Int)) 1].take 2 = (((x.T.take i).flatMap (rowK (setOf x.F) (setOf y.F) y.N y.T) ++ (y.T.take j).flatMap (pairK (setOf x.F) (setOf y.F) y.N ((s : Int), l, (s1 : Int)))) ++ [stepK (setOf x.F) (setOf y.F) y.N ((s : Int), l, (s1 : Int)) ((t : Int), l, (t1 : Int)) 0, stepK (setOf x.F) (setOf y.F) y.N ((s : Int), l, (s1 : Int)) ((t : Int), l, (t1 : Int)) 1].take 1) ++ [(numK y.N s t 1, l, numK y.N s1 t1 0)]) := by
                              show _ = _
                              rw [stepK_at, stepK_at]
                              have e := HX.out
                              simp [e]
                            have HN1 : Hid (Calls Try.prog 52 #[.int .i64 (s : Nat), .int .i64 (t : Nat), .int .i64 1, .pointer (some ⟨k0 + 1, 0, none⟩)] wk.drew fun e w' => e = .returned (.int .i64 (numK y.N s t 1)) ∧ w' = wk.drew) := numberK_any s t 1 y.N (k0 + 1) wk.drew (by obtain ⟨_, _, _, _, _, _, _, y1, _⟩ := BX.out wk STK.out.gr; exact y1) (by omega) (by omega) (by omega) (by omega)
                            have HN2 : Hid (Calls Try.prog 52 #[.int .i64 (s1 : Nat), .int .i64 (t1 : Nat), .int .i64 0, .pointer (some ⟨k0 + 1, 0, none⟩)] wk.drew fun e w' => e = .returned (.int .i64 (numK y.N s1 t1 0)) ∧ w' = wk.drew) := numberK_any s1 t1 0 y.N (k0 + 1) wk.drew (by obtain ⟨_, _, _, _, _, _, _, y1, _⟩ := BX.out wk STK.out.gr; exact y1) (by omega) (by omega) (by omega) (by omega)
                            generalize numK y.N s t 1 = z1 at *
                            generalize numK y.N s1 t1 0 = z2 at *
                            have hln : (((x.T.take i).flatMap (rowK (setOf x.F) (setOf y.F) y.N y.T) ++ (y.T.take j).flatMap (pairK (setOf x.F) (setOf y.F) y.N ((s : Int), l, (s1 : Int)))) ++ [stepK (setOf x.F) (setOf y.F) y.N ((s : Int), l, (s1 : Int)) ((t : Int), l, (t1 : Int)) 0, stepK (setOf x.F) (setOf y.F) y.N ((s : Int), l, (s1 : Int)) ((t : Int), l, (t1 : Int)) 1].take 1).length ≤ 1000000 := HLT.out i j s l s1 _ (by simp)
                            obtain ⟨Tk, hTk⟩ : ∃ Tk, ((x.T.take i).flatMap (rowK (setOf x.F) (setOf y.F) y.N y.T) ++ (y.T.take j).flatMap (pairK (setOf x.F) (setOf y.F) y.N ((s : Int), l, (s1 : Int)))) ++ [stepK (setOf x.F) (setOf y.F) y.N ((s : Int), l, (s1 : Int)) ((t : Int), l, (t1 : Int)) 0, stepK (setOf x.F) (setOf y.F) y.N ((s : Int), l, (s1 : Int)) ((t : Int), l, (t1 : Int)) 1].take 1 = Tk := ⟨_, rfl⟩
                            rw [hTk] at STK HTx hln
                            clear hTk
                            obtain ⟨a7, c7, g7, d7, w7, hv7, hrun, c72, f72, st7, ho7⟩ := (STK.out.kept (grown_drew (grown_refl _ _) : wk.grownBy wk.drew none)).addT (by omega) (z1, l, z2)
                            subst hv7
                            have STN : Hid (StJ W3 (k0 + 1 + 1 + 1) x.L (2 * x.N * y.N) (w7.setCell ⟨k0 + 1 + 1 + 1, 3, none⟩ (.slice (some ⟨g7, 0, none⟩) (Tk.length + 1) d7)) vS (.slice (some ⟨g7, 0, none⟩) (Tk.length + 1) d7) vF (kroS x y) (((x.T.take i).flatMap (rowK (setOf x.F) (setOf y.F) y.N y.T) ++ (y.T.take j).flatMap (pairK (setOf x.F) (setOf y.F) y.N ((s : Int), l, (s1 : Int)))) ++ [stepK (setOf x.F) (setOf y.F) y.N ((s : Int), l, (s1 : Int)) ((t : Int), l, (t1 : Int)) 0, stepK (setOf x.F) (setOf y.F) y.N ((s : Int), l, (s1 : Int)) ((t : Int), l, (t1 : Int)) 1].take 2) (kroF x y) (⟨53, 3, .slice (some ⟨bv, 0, none⟩) 1 1, 1, [.int .i64 (t : Nat), .int .i64 l, .int .i64 (t1 : Nat)]⟩ :: ⟨53, 3, .slice (some ⟨bu, 0, none⟩) 1 1, 1, [.int .i64 (s : Nat), .int .i64 l, .int .i64 (s1 : Nat)]⟩ :: [tabG gB nY (setOf y.F), tabG gA nX (setOf x.F)])) := by show StJ _ _ _ _ _ _ _ _ _ _ _ _; rw [HTx.out]; exact st7
                            have SK : Hid (∀ W, wk.grownBy W none → SBx bu bv (s : Nat) l (s1 : Nat) (t : Nat) (t1 : Nat) W) := fun W hW => (SBx.of (l := l) (l' := l) (STK.out.own.1 _ (by simp)) (STK.out.own.1 _ (by simp)) : SBx bu bv (s : Nat) l (s1 : Nat) (t : Nat) (t1 : Nat) wk).kept hW
                            have SW7 : Hid (SBx bu bv (s : Nat) l (s1 : Nat) (t : Nat) (t1 : Nat) w7) := SBx.of (l := l) (l' := l) (ho7 _ (by simp)) (ho7 _ (by simp))
                            have SN9 : Hid (SBx bu bv (s : Nat) l (s1 : Nat) (t : Nat) (t1 : Nat) (w7.setCell ⟨k0 + 1 + 1 + 1, 3, none⟩ (.slice (some ⟨g7, 0, none⟩) (Tk.length + 1) d7))) := SBx.of (l := l) (l' := l) (st7.own.1 _ (by simp)) (st7.own.1 _ (by simp))
                            have cb2 := (block_cells5A STK.out.box).2.2.2.1
                            have cb3 : ∀ o, (wk.alloc o).cell? ⟨k0 + 1 + 1 + 1, 3, none⟩ = some (.slice a7 Tk.length c7) := fun o => (grown_alloc wk o).cell cb2 (by simp)
                            clear st7 ho7 HTx hln HX
                            generalize Tk.length = LL at *
                            have hrun2 : (AppS #[23, 23] 23 #[.slice a7 LL c7, .slice (some ⟨wk.heap.size, 0, none⟩) 1 1]).run Try.prog (wk.alloc (.cells #[.int .i64 z1, .int .i64 l, .int .i64 z2] 53)).drew = .ok (.slice (some ⟨g7, 0, none⟩) (LL + 1) d7) w7 := hrun
                            clear hrun STK
                            have hidx := (index_two pA true wk).2
                            go_wp2_with fail
                            refine wp_region_held_drew (S := SBx bu bv (s : Nat) l (s1 : Nat) (t : Nat) (t1 : Nat)) (by kernel_rfl) (SK.out _ (grown_drew (grown_refl _ _))) (fun hHeld => ?_)
                            refine wpAnyH_take (i := 0) (v := ?_) rfl (by kernel_rfl) (by kernel_rfl) (by kernel_rfl) (fun _ _ _ h => h) (Or.inl ⟨by rfl, ?_⟩) (by assumption) ?_
                            rotate_left
                            · intro W hSw
                              obtain ⟨q0, q1, q2, q3, q4⟩ := hSw
                              go_simp
                              with_reducible rfl
                            try simp only [Act.put, List.setIfInBounds_toArray, List.set_cons_zero, List.set_cons_succ]
                            refine wpAnyH_take (i := 2) (v := ?_) rfl (by kernel_rfl) (by kernel_rfl) (by kernel_rfl) (fun _ _ _ h => h) (Or.inl ⟨by rfl, ?_⟩) (by assumption) ?_
                            rotate_left
                            · intro W hSw
                              obtain ⟨q0, q1, q2, q3, q4⟩ := hSw
                              go_simp
                              with_reducible rfl
                            try simp only [Act.put, List.setIfInBounds_toArray, List.set_cons_zero, List.set_cons_succ]
                            refine wpAnyH_take (i := 3) (v := ?_) rfl (by kernel_rfl) (by kernel_rfl) (by kernel_rfl) (fun _ _ _ h => h) (Or.inl ⟨by rfl, ?_⟩) (by assumption) ?_
                            rotate_left
                            · intro W hSw
                              obtain ⟨q0, q1, q2, q3, q4⟩ := hSw
                              go_simp
                              with_reducible rfl
                            try simp only [Act.put, List.setIfInBounds_toArray, List.set_cons_zero, List.set_cons_succ]
                            refine wpAnyH_take (i := 4) (v := ?_) rfl (by kernel_rfl) (by kernel_rfl) (by kernel_rfl) (fun _ _ _ h => h) (Or.inl ⟨by rfl, ?_⟩) (by assumption) ?_
                            rotate_left
                            · intro W hSw
                              obtain ⟨q0, q1, q2, q3, q4⟩ := hSw
                              go_simp
                              with_reducible rfl
                            try simp only [Act.put, List.setIfInBounds_toArray, List.set_cons_zero, List.set_cons_succ]
                            refine wpAnyH_take (i := 5) (v := ?_) rfl (by kernel_rfl) (by kernel_rfl) (by kernel_rfl) (fun _ _ _ h => h) (Or.inl ⟨by rfl, ?_⟩) (by assumption) ?_
                            rotate_left
                            · intro W hSw
                              obtain ⟨q0, q1, q2, q3, q4⟩ := hSw
                              go_simp
                              with_reducible rfl
                            try simp only [Act.put, List.setIfInBounds_toArray, List.set_cons_zero, List.set_cons_succ]
                            refine wpAnyH_take (i := 6) (v := ?_) rfl (by kernel_rfl) (by kernel_rfl) (by kernel_rfl) (fun _ _ _ h => h) (Or.inl ⟨by rfl, ?_⟩) (by assumption) ?_
                            rotate_left
                            · intro W hSw
                              obtain ⟨q0, q1, q2, q3, q4⟩ := hSw
                              go_simp
                              with_reducible rfl
                            try simp only [Act.put, List.setIfInBounds_toArray, List.set_cons_zero, List.set_cons_succ]
                            refine wpAnyH_take (i := 7) (v := ?_) rfl (by kernel_rfl) (by kernel_rfl) (by kernel_rfl) (fun _ _ _ h => h) (Or.inl ⟨by rfl, ?_⟩) (by assumption) ?_
                            rotate_left
                            · intro W hSw
                              obtain ⟨q0, q1, q2, q3, q4⟩ := hSw
                              go_simp
                              with_reducible rfl
                            try simp only [Act.put, List.setIfInBounds_toArray, List.set_cons_zero, List.set_cons_succ]
                            refine wpAnyH_take (i := 9) (v := ?_) rfl (by kernel_rfl) (by kernel_rfl) (by kernel_rfl) (fun _ _ _ h => h) (Or.inl ⟨by rfl, ?_⟩) (by assumption) ?_
                            rotate_left
                            · intro W hSw
                              obtain ⟨q0, q1, q2, q3, q4⟩ := hSw
                              go_simp
                              with_reducible rfl
                            try simp only [Act.put, List.setIfInBounds_toArray, List.set_cons_zero, List.set_cons_succ]
                            refine wpAnyH_take (i := 10) (v := ?_) rfl (by kernel_rfl) (by kernel_rfl) (by kernel_rfl) (fun _ _ _ h => h) (Or.inl ⟨by rfl, ?_⟩) (by assumption) ?_
                            rotate_left
                            · intro W hSw
                              obtain ⟨q0, q1, q2, q3, q4⟩ := hSw
                              go_simp
                              with_reducible rfl
                            try simp only [Act.put, List.setIfInBounds_toArray, List.set_cons_zero, List.set_cons_succ]
                            refine wpAnyH_take (i := 11) (v := ?_) rfl (by kernel_rfl) (by kernel_rfl) (by kernel_rfl) (fun _ _ _ h => h) (Or.inl ⟨by rfl, ?_⟩) (by assumption) ?_
                            rotate_left
                            · intro W hSw
                              obtain ⟨q0, q1, q2, q3, q4⟩ := hSw
                              go_simp
                              with_reducible rfl
                            try simp only [Act.put, List.setIfInBounds_toArray, List.set_cons_zero, List.set_cons_succ]
                            refine wpAnyH_take (i := 12) (v := ?_) rfl (by kernel_rfl) (by kernel_rfl) (by kernel_rfl) (fun _ _ _ h => h) (Or.inl ⟨by rfl, ?_⟩) (by assumption) ?_
                            rotate_left
                            · intro W hSw
                              obtain ⟨q0, q1, q2, q3, q4⟩ := hSw
                              go_simp
                              with_reducible rfl
                            try simp only [Act.put, List.setIfInBounds_toArray, List.set_cons_zero, List.set_cons_succ]
                            refine wpAnyH_take (i := 13) (v := ?_) rfl (by kernel_rfl) (by kernel_rfl) (by kernel_rfl) (fun _ _ _ h => h) (Or.inl ⟨by rfl, ?_⟩) (by assumption) ?_
                            rotate_left
                            · intro W hSw
                              obtain ⟨q0, q1, q2, q3, q4⟩ := hSw
                              go_simp
                              with_reducible rfl
                            try simp only [Act.put, List.setIfInBounds_toArray, List.set_cons_zero, List.set_cons_succ]
                            refine wpAnyH_take (i := 14) (v := ?_) rfl (by kernel_rfl) (by kernel_rfl) (by kernel_rfl) (fun _ _ _ h => h) (Or.inl ⟨by rfl, ?_⟩) (by assumption) ?_
                            rotate_left
                            · intro W hSw
                              obtain ⟨q0, q1, q2, q3, q4⟩ := hSw
                              go_simp
                              with_reducible rfl
                            try simp only [Act.put, List.setIfInBounds_toArray, List.set_cons_zero, List.set_cons_succ]
                            refine wpAnyH_take (i := 15) (v := ?_) rfl (by kernel_rfl) (by kernel_rfl) (by kernel_rfl) (fun _ _ _ h => h) (Or.inl ⟨by rfl, ?_⟩) (by assumption) ?_
                            rotate_left
                            · intro W hSw
                              obtain ⟨q0, q1, q2, q3, q4⟩ := hSw
                              go_simp
                              with_reducible rfl
                            try simp only [Act.put, List.setIfInBounds_toArray, List.set_cons_zero, List.set_cons_succ]
                            refine wpAnyH_take (i := 16) (v := ?_) rfl (by kernel_rfl) (by kernel_rfl) (by kernel_rfl) (fun _ _ _ h => h) (Or.inl ⟨by rfl, ?_⟩) (by assumption) ?_
                            rotate_left
                            · intro W hSw
                              obtain ⟨q0, q1, q2, q3, q4⟩ := hSw
                              go_simp
                              with_reducible rfl
                            try simp only [Act.put, List.setIfInBounds_toArray, List.set_cons_zero, List.set_cons_succ]
                            refine wpAnyH_ready (rs := [1, 8]) (by kernel_rfl) (by simp) ?_
                            refine AllReadyH.cons (o := _) rfl (fun K' hK => ?_) ?_
                            · go_simp
                              refine hK.out _ _ (SK.out _ (grown_drew (grown_refl _ _))) (fun hHeld => ?_)
                              clear hK K'
                              try simp only [Act.put, List.setIfInBounds_toArray, List.set_cons_zero, List.set_cons_succ]
                              refine wpAnyH_ready (rs := [8]) (by kernel_rfl) (by simp) ?_
                              refine AllReadyH.cons (o := _) rfl (fun K' hK => ?_) ?_
                              · go_simp
                                refine HN1.out.mono ?_
                                rintro E wA ⟨rfl, rfl⟩
                                go_wp2_with fail
                                refine hK.out _ _ (SK.out _ (grown_drew (grown_refl _ _))) (fun hHeld => ?_)
                                clear hK K'
                                try simp only [Act.put, List.setIfInBounds_toArray, List.set_cons_zero, List.set_cons_succ]
                                refine wpAnyH_ready (rs := [17]) (by kernel_rfl) (by simp) ?_
                                refine AllReadyH.cons (o := _) rfl (fun K' hK => ?_) ?_
                                · go_simp
                                  refine HN2.out.mono ?_
                                  rintro E wA ⟨rfl, rfl⟩
                                  go_wp2_with fail
                                  refine hK.out _ _ (SK.out _ (grown_drew (grown_refl _ _))) (fun hHeld => ?_)
                                  clear hK K'
                                  try simp only [Act.put, List.setIfInBounds_toArray, List.set_cons_zero, List.set_cons_succ]
                                  refine wpAnyH_take (i := 18) (v := ?_) rfl (by kernel_rfl) (by kernel_rfl) (by kernel_rfl) (fun _ _ _ h => h) (Or.inl ⟨by rfl, ?_⟩) (by assumption) ?_
                                  rotate_left
                                  · intro W hSw
                                    obtain ⟨q0, q1, q2, q3, q4⟩ := hSw
                                    go_simp
                                    with_reducible rfl
                                  try simp only [Act.put, List.setIfInBounds_toArray, List.set_cons_zero, List.set_cons_succ]
                                  refine wpAnyH_ready (rs := [19]) (by kernel_rfl) (by simp) ?_
                                  refine AllReadyH.cons (o := _) rfl (fun K' hK => ?_) ?_
                                  · go_simp
                                    refine hK.out _ _ (SK.out _ (grown_drew (grown_alloc _ _))) (fun hHeld => ?_)
                                    clear hK K'
                                    try simp only [Act.put, List.setIfInBounds_toArray, List.set_cons_zero, List.set_cons_succ]
                                    refine wpAnyH_ready (rs := [20]) (by kernel_rfl) (by simp) ?_
                                    refine AllReadyH.cons (o := _) rfl (fun K' hK => ?_) ?_
                                    · go_simp
                                      refine hK.out _ _ (SW7.out) (fun hHeld => ?_)
                                      clear hK K'
                                      try simp only [Act.put, List.setIfInBounds_toArray, List.set_cons_zero, List.set_cons_succ]
                                      refine wpAnyH_take (i := 21) (v := ?_) rfl (by kernel_rfl) (by kernel_rfl) (by kernel_rfl) (fun _ _ _ h => h) (Or.inl ⟨by rfl, ?_⟩) (by assumption) ?_
                                      rotate_left
                                      · intro W hSw
                                        obtain ⟨q0, q1, q2, q3, q4⟩ := hSw
                                        go_simp
                                        with_reducible rfl
                                      try simp only [Act.put, List.setIfInBounds_toArray, List.set_cons_zero, List.set_cons_succ]
                                      refine wpAnyH_ready (rs := [22]) (by kernel_rfl) (by simp) ?_
                                      refine AllReadyH.cons (o := _) rfl (fun K' hK => ?_) ?_
                                      · go_simp
                                        refine hK.out _ _ (SN9.out) (fun hHeld => ?_)
                                        clear hK K'
                                        try simp only [Act.put, List.setIfInBounds_toArray, List.set_cons_zero, List.set_cons_succ]
                                        refine wpAnyH_done (by kernel_rfl) ?_ _
                                        go_wp2_with fail
                                        go_roundw
                                        case rel => exact ⟨2, _, by omega, rfl, STN.out⟩
                                        case measure => simp [intOf]
                                      exact AllReadyH.nil
                                    exact AllReadyH.nil
                                  exact AllReadyH.nil
                                exact AllReadyH.nil
                              exact AllReadyH.nil
                            refine AllReadyH.cons (o := _) rfl (fun K' hK => ?_) ?_
                            · go_simp
                              refine HN1.out.mono ?_
                              rintro E wA ⟨rfl, rfl⟩
                              go_wp2_with fail
                              refine hK.out _ _ (SK.out _ (grown_drew (grown_refl _ _))) (fun hHeld => ?_)
                              clear hK K'
                              try simp only [Act.put, List.setIfInBounds_toArray, List.set_cons_zero, List.set_cons_succ]
                              refine wpAnyH_ready (rs := [1, 17]) (by kernel_rfl) (by simp) ?_
                              refine AllReadyH.cons (o := _) rfl (fun K' hK => ?_) ?_
                              · go_simp
                                refine hK.out _ _ (SK.out _ (grown_drew (grown_refl _ _))) (fun hHeld => ?_)
                                clear hK K'
                                try simp only [Act.put, List.setIfInBounds_toArray, List.set_cons_zero, List.set_cons_succ]
                                refine wpAnyH_ready (rs := [17]) (by kernel_rfl) (by simp) ?_
                                refine AllReadyH.cons (o := _) rfl (fun K' hK => ?_) ?_
                                · go_simp
                                  refine HN2.out.mono ?_
                                  rintro E wA ⟨rfl, rfl⟩
                                  go_wp2_with fail
                                  refine hK.out _ _ (SK.out _ (grown_drew (grown_refl _ _))) (fun hHeld => ?_)
                                  clear hK K'
                                  try simp only [Act.put, List.setIfInBounds_toArray, List.set_cons_zero, List.set_cons_succ]
                                  refine wpAnyH_take (i := 18) (v := ?_) rfl (by kernel_rfl) (by kernel_rfl) (by kernel_rfl) (fun _ _ _ h => h) (Or.inl ⟨by rfl, ?_⟩) (by assumption) ?_
                                  rotate_left
                                  · intro W hSw
                                    obtain ⟨q0, q1, q2, q3, q4⟩ := hSw
                                    go_simp
                                    with_reducible rfl
                                  try simp only [Act.put, List.setIfInBounds_toArray, List.set_cons_zero, List.set_cons_succ]
                                  refine wpAnyH_ready (rs := [19]) (by kernel_rfl) (by simp) ?_
                                  refine AllReadyH.cons (o := _) rfl (fun K' hK => ?_) ?_
                                  · go_simp
                                    refine hK.out _ _ (SK.out _ (grown_drew (grown_alloc _ _))) (fun hHeld => ?_)
                                    clear hK K'
                                    try simp only [Act.put, List.setIfInBounds_toArray, List.set_cons_zero, List.set_cons_succ]
                                    refine wpAnyH_ready (rs := [20]) (by kernel_rfl) (by simp) ?_
                                    refine AllReadyH.cons (o := _) rfl (fun K' hK => ?_) ?_
                                    · go_simp
                                      refine hK.out _ _ (SW7.out) (fun hHeld => ?_)
                                      clear hK K'
                                      try simp only [Act.put, List.setIfInBounds_toArray, List.set_cons_zero, List.set_cons_succ]
                                      refine wpAnyH_take (i := 21) (v := ?_) rfl (by kernel_rfl) (by kernel_rfl) (by kernel_rfl) (fun _ _ _ h => h) (Or.inl ⟨by rfl, ?_⟩) (by assumption) ?_
                                      rotate_left
                                      · intro W hSw
                                        obtain ⟨q0, q1, q2, q3, q4⟩ := hSw
                                        go_simp
                                        with_reducible rfl
                                      try simp only [Act.put, List.setIfInBounds_toArray, List.set_cons_zero, List.set_cons_succ]
                                      refine wpAnyH_ready (rs := [22]) (by kernel_rfl) (by simp) ?_
                                      refine AllReadyH.cons (o := _) rfl (fun K' hK => ?_) ?_
                                      · go_simp
                                        refine hK.out _ _ (SN9.out) (fun hHeld => ?_)
                                        clear hK K'
                                        try simp only [Act.put, List.setIfInBounds_toArray, List.set_cons_zero, List.set_cons_succ]
                                        refine wpAnyH_done (by kernel_rfl) ?_ _
                                        go_wp2_with fail
                                        go_roundw
                                        case rel => exact ⟨2, _, by omega, rfl, STN.out⟩
                                        case measure => simp [intOf]
                                      exact AllReadyH.nil
                                    exact AllReadyH.nil
                                  exact AllReadyH.nil
                                exact AllReadyH.nil
                              refine AllReadyH.cons (o := _) rfl (fun K' hK => ?_) ?_
                              · go_simp
                                refine HN2.out.mono ?_
                                rintro E wA ⟨rfl, rfl⟩
                                go_wp2_with fail
                                refine hK.out _ _ (SK.out _ (grown_drew (grown_refl _ _))) (fun hHeld => ?_)
                                clear hK K'
                                try simp only [Act.put, List.setIfInBounds_toArray, List.set_cons_zero, List.set_cons_succ]
                                refine wpAnyH_take (i := 18) (v := ?_) rfl (by kernel_rfl) (by kernel_rfl) (by kernel_rfl) (fun _ _ _ h => h) (Or.inl ⟨by rfl, ?_⟩) (by assumption) ?_
                                rotate_left
                                · intro W hSw
                                  obtain ⟨q0, q1, q2, q3, q4⟩ := hSw
                                  go_simp
                                  with_reducible rfl
                                try simp only [Act.put, List.setIfInBounds_toArray, List.set_cons_zero, List.set_cons_succ]
                                refine wpAnyH_ready (rs := [1, 19]) (by kernel_rfl) (by simp) ?_
                                refine AllReadyH.cons (o := _) rfl (fun K' hK => ?_) ?_
                                · go_simp
                                  refine hK.out _ _ (SK.out _ (grown_drew (grown_refl _ _))) (fun hHeld => ?_)
                                  clear hK K'
                                  try simp only [Act.put, List.setIfInBounds_toArray, List.set_cons_zero, List.set_cons_succ]
                                  refine wpAnyH_ready (rs := [19]) (by kernel_rfl) (by simp) ?_
                                  refine AllReadyH.cons (o := _) rfl (fun K' hK => ?_) ?_
                                  · go_simp
                                    refine hK.out _ _ (SK.out _ (grown_drew (grown_alloc _ _))) (fun hHeld => ?_)
                                    clear hK K'
                                    try simp only [Act.put, List.setIfInBounds_toArray, List.set_cons_zero, List.set_cons_succ]
                                    refine wpAnyH_ready (rs := [20]) (by kernel_rfl) (by simp) ?_
                                    refine AllReadyH.cons (o := _) rfl (fun K' hK => ?_) ?_
                                    · go_simp
                                      refine hK.out _ _ (SW7.out) (fun hHeld => ?_)
                                      clear hK K'
                                      try simp only [Act.put, List.setIfInBounds_toArray, List.set_cons_zero, List.set_cons_succ]
                                      refine wpAnyH_take (i := 21) (v := ?_) rfl (by kernel_rfl) (by kernel_rfl) (by kernel_rfl) (fun _ _ _ h => h) (Or.inl ⟨by rfl, ?_⟩) (by assumption) ?_
                                      rotate_left
                                      · intro W hSw
                                        obtain ⟨q0, q1, q2, q3, q4⟩ := hSw
                                        go_simp
                                        with_reducible rfl
                                      try simp only [Act.put, List.setIfInBounds_toArray, List.set_cons_zero, List.set_cons_succ]
                                      refine wpAnyH_ready (rs := [22]) (by kernel_rfl) (by simp) ?_
                                      refine AllReadyH.cons (o := _) rfl (fun K' hK => ?_) ?_
                                      · go_simp
                                        refine hK.out _ _ (SN9.out) (fun hHeld => ?_)
                                        clear hK K'
                                        try simp only [Act.put, List.setIfInBounds_toArray, List.set_cons_zero, List.set_cons_succ]
                                        refine wpAnyH_done (by kernel_rfl) ?_ _
                                        go_wp2_with fail
                                        go_roundw
                                        case rel => exact ⟨2, _, by omega, rfl, STN.out⟩
                                        case measure => simp [intOf]
                                      exact AllReadyH.nil
                                    exact AllReadyH.nil
                                  exact AllReadyH.nil
                                refine AllReadyH.cons (o := _) rfl (fun K' hK => ?_) ?_
                                · go_simp
                                  refine hK.out _ _ (SK.out _ (grown_drew (grown_alloc _ _))) (fun hHeld => ?_)
                                  clear hK K'
                                  try simp only [Act.put, List.setIfInBounds_toArray, List.set_cons_zero, List.set_cons_succ]
                                  refine wpAnyH_ready (rs := [1]) (by kernel_rfl) (by simp) ?_
                                  refine AllReadyH.cons (o := _) rfl (fun K' hK => ?_) ?_
                                  · go_simp
                                    refine hK.out _ _ (SK.out _ (grown_drew (grown_alloc _ _))) (fun hHeld => ?_)
                                    clear hK K'
                                    try simp only [Act.put, List.setIfInBounds_toArray, List.set_cons_zero, List.set_cons_succ]
                                    refine wpAnyH_ready (rs := [20]) (by kernel_rfl) (by simp) ?_
                                    refine AllReadyH.cons (o := _) rfl (fun K' hK => ?_) ?_
                                    · go_simp
                                      refine hK.out _ _ (SW7.out) (fun hHeld => ?_)
                                      clear hK K'
                                      try simp only [Act.put, List.setIfInBounds_toArray, List.set_cons_zero, List.set_cons_succ]
                                      refine wpAnyH_take (i := 21) (v := ?_) rfl (by kernel_rfl) (by kernel_rfl) (by kernel_rfl) (fun _ _ _ h => h) (Or.inl ⟨by rfl, ?_⟩) (by assumption) ?_
                                      rotate_left
                                      · intro W hSw
                                        obtain ⟨q0, q1, q2, q3, q4⟩ := hSw
                                        go_simp
                                        with_reducible rfl
                                      try simp only [Act.put, List.setIfInBounds_toArray, List.set_cons_zero, List.set_cons_succ]
                                      refine wpAnyH_ready (rs := [22]) (by kernel_rfl) (by simp) ?_
                                      refine AllReadyH.cons (o := _) rfl (fun K' hK => ?_) ?_
                                      · go_simp
                                        refine hK.out _ _ (SN9.out) (fun hHeld => ?_)
                                        clear hK K'
                                        try simp only [Act.put, List.setIfInBounds_toArray, List.set_cons_zero, List.set_cons_succ]
                                        refine wpAnyH_done (by kernel_rfl) ?_ _
                                        go_wp2_with fail
                                        go_roundw
                                        case rel => exact ⟨2, _, by omega, rfl, STN.out⟩
                                        case measure => simp [intOf]
                                      exact AllReadyH.nil
                                    exact AllReadyH.nil
                                  exact AllReadyH.nil
                                exact AllReadyH.nil
                              exact AllReadyH.nil
                            exact AllReadyH.nil
                          | false =>
                            have HX : Hid (nxW (setOf x.F) (setOf y.F) s t 1 = 1) := by show _ = _; unfold nxW; simp [HpB.out]
                            have HTx : Hid (((x.T.take i).flatMap (rowK (setOf x.F) (setOf y.F) y.N y.T) ++ (y.T.take j).flatMap (pairK (setOf x.F) (setOf y.F) y.N ((s : Int), l, (s1 : Int)))) ++ [stepK (setOf x.F) (setOf y.F) y.N ((s : Int), l, (s1 : Int)) ((t : Int), l, (t1 : Int)) 0, stepK (setOf x.F) (setOf y.F) y.N ((s : Int), l, (s1 : Int)) ((t : Int), l, (t1 : Int)) 1].take 2 = (((x.T.take i).flatMap (rowK (setOf x.F) (setOf y.F) y.N y.T) ++ (y.T.take j).flatMap (pairK (setOf x.F) (setOf y.F) y.N ((s : Int), l, (s1 : Int)))) ++ [stepK (setOf x.F) (setOf y.F) y.N ((s : Int), l, (s1 : Int)) ((t : Int), l, (t1 : Int)) 0, stepK (setOf x.F) (setOf y.F) y.N ((s : Int), l, (s1 : Int)) ((t : Int), l, (t1 : Int)) 1].take 1) ++ [(numK y.N s t 1, l, numK y.N s1 t1 1)]) := by
                              show _ = _
                              rw [stepK_at, stepK_at]
                              have e := HX.out
                              simp [e]
                            have HN1 : Hid (Calls Try.prog 52 #[.int .i64 (s : Nat), .int .i64 (t : Nat), .int .i64 1, .pointer (some ⟨k0 + 1, 0, none⟩)] wk.drew fun e w' => e = .returned (.int .i64 (numK y.N s t 1)) ∧ w' = wk.drew) := numberK_any s t 1 y.N (k0 + 1) wk.drew (by obtain ⟨_, _, _, _, _, _, _, y1, _⟩ := BX.out wk STK.out.gr; exact y1) (by omega) (by omega) (by omega) (by omega)
                            have HN2 : Hid (Calls Try.prog 52 #[.int .i64 (s1 : Nat), .int .i64 (t1 : Nat), .int .i64 1, .pointer (some ⟨k0 + 1, 0, none⟩)] wk.drew fun e w' => e = .returned (.int .i64 (numK y.N s1 t1 1)) ∧ w' = wk.drew) := numberK_any s1 t1 1 y.N (k0 + 1) wk.drew (by obtain ⟨_, _, _, _, _, _, _, y1, _⟩ := BX.out wk STK.out.gr; exact y1) (by omega) (by omega) (by omega) (by omega)
                            generalize numK y.N s t 1 = z1 at *
                            generalize numK y.N s1 t1 1 = z2 at *
                            have hln : (((x.T.take i).flatMap (rowK (setOf x.F) (setOf y.F) y.N y.T) ++ (y.T.take j).flatMap (pairK (setOf x.F) (setOf y.F) y.N ((s : Int), l, (s1 : Int)))) ++ [stepK (setOf x.F) (setOf y.F) y.N ((s : Int), l, (s1 : Int)) ((t : Int), l, (t1 : Int)) 0, stepK (setOf x.F) (setOf y.F) y.N ((s : Int), l, (s1 : Int)) ((t : Int), l, (t1 : Int)) 1].take 1).length ≤ 1000000 := HLT.out i j s l s1 _ (by simp)
                            obtain ⟨Tk, hTk⟩ : ∃ Tk, ((x.T.take i).flatMap (rowK (setOf x.F) (setOf y.F) y.N y.T) ++ (y.T.take j).flatMap (pairK (setOf x.F) (setOf y.F) y.N ((s : Int), l, (s1 : Int)))) ++ [stepK (setOf x.F) (setOf y.F) y.N ((s : Int), l, (s1 : Int)) ((t : Int), l, (t1 : Int)) 0, stepK (setOf x.F) (setOf y.F) y.N ((s : Int), l, (s1 : Int)) ((t : Int), l, (t1 : Int)) 1].take 1 = Tk := ⟨_, rfl⟩
                            rw [hTk] at STK HTx hln
                            clear hTk
                            obtain ⟨a7, c7, g7, d7, w7, hv7, hrun, c72, f72, st7, ho7⟩ := (STK.out.kept (grown_drew (grown_refl _ _) : wk.grownBy wk.drew none)).addT (by omega) (z1, l, z2)
                            subst hv7
                            have STN : Hid (StJ W3 (k0 + 1 + 1 + 1) x.L (2 * x.N * y.N) (w7.setCell ⟨k0 + 1 + 1 + 1, 3, none⟩ (.slice (some ⟨g7, 0, none⟩) (Tk.length + 1) d7)) vS (.slice (some ⟨g7, 0, none⟩) (Tk.length + 1) d7) vF (kroS x y) (((x.T.take i).flatMap (rowK (setOf x.F) (setOf y.F) y.N y.T) ++ (y.T.take j).flatMap (pairK (setOf x.F) (setOf y.F) y.N ((s : Int), l, (s1 : Int)))) ++ [stepK (setOf x.F) (setOf y.F) y.N ((s : Int), l, (s1 : Int)) ((t : Int), l, (t1 : Int)) 0, stepK (setOf x.F) (setOf y.F) y.N ((s : Int), l, (s1 : Int)) ((t : Int), l, (t1 : Int)) 1].take 2) (kroF x y) (⟨53, 3, .slice (some ⟨bv, 0, none⟩) 1 1, 1, [.int .i64 (t : Nat), .int .i64 l, .int .i64 (t1 : Nat)]⟩ :: ⟨53, 3, .slice (some ⟨bu, 0, none⟩) 1 1, 1, [.int .i64 (s : Nat), .int .i64 l, .int .i64 (s1 : Nat)]⟩ :: [tabG gB nY (setOf y.F), tabG gA nX (setOf x.F)])) := by show StJ _ _ _ _ _ _ _ _ _ _ _ _; rw [HTx.out]; exact st7
                            have SK : Hid (∀ W, wk.grownBy W none → SBx bu bv (s : Nat) l (s1 : Nat) (t : Nat) (t1 : Nat) W) := fun W hW => (SBx.of (l := l) (l' := l) (STK.out.own.1 _ (by simp)) (STK.out.own.1 _ (by simp)) : SBx bu bv (s : Nat) l (s1 : Nat) (t : Nat) (t1 : Nat) wk).kept hW
                            have SW7 : Hid (SBx bu bv (s : Nat) l (s1 : Nat) (t : Nat) (t1 : Nat) w7) := SBx.of (l := l) (l' := l) (ho7 _ (by simp)) (ho7 _ (by simp))
                            have SN9 : Hid (SBx bu bv (s : Nat) l (s1 : Nat) (t : Nat) (t1 : Nat) (w7.setCell ⟨k0 + 1 + 1 + 1, 3, none⟩ (.slice (some ⟨g7, 0, none⟩) (Tk.length + 1) d7))) := SBx.of (l := l) (l' := l) (st7.own.1 _ (by simp)) (st7.own.1 _ (by simp))
                            have cb2 := (block_cells5A STK.out.box).2.2.2.1
                            have cb3 : ∀ o, (wk.alloc o).cell? ⟨k0 + 1 + 1 + 1, 3, none⟩ = some (.slice a7 Tk.length c7) := fun o => (grown_alloc wk o).cell cb2 (by simp)
                            clear st7 ho7 HTx hln HX
                            generalize Tk.length = LL at *
                            have hrun2 : (AppS #[23, 23] 23 #[.slice a7 LL c7, .slice (some ⟨wk.heap.size, 0, none⟩) 1 1]).run Try.prog (wk.alloc (.cells #[.int .i64 z1, .int .i64 l, .int .i64 z2] 53)).drew = .ok (.slice (some ⟨g7, 0, none⟩) (LL + 1) d7) w7 := hrun
                            clear hrun STK
                            have hidx := (index_two pA false wk).2
                            go_wp2_with fail
                            refine wp_region_held_drew (S := SBx bu bv (s : Nat) l (s1 : Nat) (t : Nat) (t1 : Nat)) (by kernel_rfl) (SK.out _ (grown_drew (grown_refl _ _))) (fun hHeld => ?_)
                            refine wpAnyH_take (i := 0) (v := ?_) rfl (by kernel_rfl) (by kernel_rfl) (by kernel_rfl) (fun _ _ _ h => h) (Or.inl ⟨by rfl, ?_⟩) (by assumption) ?_
                            rotate_left
                            · intro W hSw
                              obtain ⟨q0, q1, q2, q3, q4⟩ := hSw
                              go_simp
                              with_reducible rfl
                            try simp only [Act.put, List.setIfInBounds_toArray, List.set_cons_zero, List.set_cons_succ]
                            refine wpAnyH_take (i := 2) (v := ?_) rfl (by kernel_rfl) (by kernel_rfl) (by kernel_rfl) (fun _ _ _ h => h) (Or.inl ⟨by rfl, ?_⟩) (by assumption) ?_
                            rotate_left
                            · intro W hSw
                              obtain ⟨q0, q1, q2, q3, q4⟩ := hSw
                              go_simp
                              with_reducible rfl
                            try simp only [Act.put, List.setIfInBounds_toArray, List.set_cons_zero, List.set_cons_succ]
                            refine wpAnyH_take (i := 3) (v := ?_) rfl (by kernel_rfl) (by kernel_rfl) (by kernel_rfl) (fun _ _ _ h => h) (Or.inl ⟨by rfl, ?_⟩) (by assumption) ?_
                            rotate_left
                            · intro W hSw
                              obtain ⟨q0, q1, q2, q3, q4⟩ := hSw
                              go_simp
                              with_reducible rfl
                            try simp only [Act.put, List.setIfInBounds_toArray, List.set_cons_zero, List.set_cons_succ]
                            refine wpAnyH_take (i := 4) (v := ?_) rfl (by kernel_rfl) (by kernel_rfl) (by kernel_rfl) (fun _ _ _ h => h) (Or.inl ⟨by rfl, ?_⟩) (by assumption) ?_
                            rotate_left
                            · intro W hSw
                              obtain ⟨q0, q1, q2, q3, q4⟩ := hSw
                              go_simp
                              with_reducible rfl
                            try simp only [Act.put, List.setIfInBounds_toArray, List.set_cons_zero, List.set_cons_succ]
                            refine wpAnyH_take (i := 5) (v := ?_) rfl (by kernel_rfl) (by kernel_rfl) (by kernel_rfl) (fun _ _ _ h => h) (Or.inl ⟨by rfl, ?_⟩) (by assumption) ?_
                            rotate_left
                            · intro W hSw
                              obtain ⟨q0, q1, q2, q3, q4⟩ := hSw
                              go_simp
                              with_reducible rfl
                            try simp only [Act.put, List.setIfInBounds_toArray, List.set_cons_zero, List.set_cons_succ]
                            refine wpAnyH_take (i := 6) (v := ?_) rfl (by kernel_rfl) (by kernel_rfl) (by kernel_rfl) (fun _ _ _ h => h) (Or.inl ⟨by rfl, ?_⟩) (by assumption) ?_
                            rotate_left
                            · intro W hSw
                              obtain ⟨q0, q1, q2, q3, q4⟩ := hSw
                              go_simp
                              with_reducible rfl
                            try simp only [Act.put, List.setIfInBounds_toArray, List.set_cons_zero, List.set_cons_succ]
                            refine wpAnyH_take (i := 7) (v := ?_) rfl (by kernel_rfl) (by kernel_rfl) (by kernel_rfl) (fun _ _ _ h => h) (Or.inl ⟨by rfl, ?_⟩) (by assumption) ?_
                            rotate_left
                            · intro W hSw
                              obtain ⟨q0, q1, q2, q3, q4⟩ := hSw
                              go_simp
                              with_reducible rfl
                            try simp only [Act.put, List.setIfInBounds_toArray, List.set_cons_zero, List.set_cons_succ]
                            refine wpAnyH_take (i := 9) (v := ?_) rfl (by kernel_rfl) (by kernel_rfl) (by kernel_rfl) (fun _ _ _ h => h) (Or.inl ⟨by rfl, ?_⟩) (by assumption) ?_
                            rotate_left
                            · intro W hSw
                              obtain ⟨q0, q1, q2, q3, q4⟩ := hSw
                              go_simp
                              with_reducible rfl
                            try simp only [Act.put, List.setIfInBounds_toArray, List.set_cons_zero, List.set_cons_succ]
                            refine wpAnyH_take (i := 10) (v := ?_) rfl (by kernel_rfl) (by kernel_rfl) (by kernel_rfl) (fun _ _ _ h => h) (Or.inl ⟨by rfl, ?_⟩) (by assumption) ?_
                            rotate_left
                            · intro W hSw
                              obtain ⟨q0, q1, q2, q3, q4⟩ := hSw
                              go_simp
                              with_reducible rfl
                            try simp only [Act.put, List.setIfInBounds_toArray, List.set_cons_zero, List.set_cons_succ]
                            refine wpAnyH_take (i := 11) (v := ?_) rfl (by kernel_rfl) (by kernel_rfl) (by kernel_rfl) (fun _ _ _ h => h) (Or.inl ⟨by rfl, ?_⟩) (by assumption) ?_
                            rotate_left
                            · intro W hSw
                              obtain ⟨q0, q1, q2, q3, q4⟩ := hSw
                              go_simp
                              with_reducible rfl
                            try simp only [Act.put, List.setIfInBounds_toArray, List.set_cons_zero, List.set_cons_succ]
                            refine wpAnyH_take (i := 12) (v := ?_) rfl (by kernel_rfl) (by kernel_rfl) (by kernel_rfl) (fun _ _ _ h => h) (Or.inl ⟨by rfl, ?_⟩) (by assumption) ?_
                            rotate_left
                            · intro W hSw
                              obtain ⟨q0, q1, q2, q3, q4⟩ := hSw
                              go_simp
                              with_reducible rfl
                            try simp only [Act.put, List.setIfInBounds_toArray, List.set_cons_zero, List.set_cons_succ]
                            refine wpAnyH_take (i := 13) (v := ?_) rfl (by kernel_rfl) (by kernel_rfl) (by kernel_rfl) (fun _ _ _ h => h) (Or.inl ⟨by rfl, ?_⟩) (by assumption) ?_
                            rotate_left
                            · intro W hSw
                              obtain ⟨q0, q1, q2, q3, q4⟩ := hSw
                              go_simp
                              with_reducible rfl
                            try simp only [Act.put, List.setIfInBounds_toArray, List.set_cons_zero, List.set_cons_succ]
                            refine wpAnyH_take (i := 14) (v := ?_) rfl (by kernel_rfl) (by kernel_rfl) (by kernel_rfl) (fun _ _ _ h => h) (Or.inl ⟨by rfl, ?_⟩) (by assumption) ?_
                            rotate_left
                            · intro W hSw
                              obtain ⟨q0, q1, q2, q3, q4⟩ := hSw
                              go_simp
                              with_reducible rfl
                            try simp only [Act.put, List.setIfInBounds_toArray, List.set_cons_zero, List.set_cons_succ]
                            refine wpAnyH_take (i := 15) (v := ?_) rfl (by kernel_rfl) (by kernel_rfl) (by kernel_rfl) (fun _ _ _ h => h) (Or.inl ⟨by rfl, ?_⟩) (by assumption) ?_
                            rotate_left
                            · intro W hSw
                              obtain ⟨q0, q1, q2, q3, q4⟩ := hSw
                              go_simp
                              with_reducible rfl
                            try simp only [Act.put, List.setIfInBounds_toArray, List.set_cons_zero, List.set_cons_succ]
                            refine wpAnyH_take (i := 16) (v := ?_) rfl (by kernel_rfl) (by kernel_rfl) (by kernel_rfl) (fun _ _ _ h => h) (Or.inl ⟨by rfl, ?_⟩) (by assumption) ?_
                            rotate_left
                            · intro W hSw
                              obtain ⟨q0, q1, q2, q3, q4⟩ := hSw
                              go_simp
                              with_reducible rfl
                            try simp only [Act.put, List.setIfInBounds_toArray, List.set_cons_zero, List.set_cons_succ]
                            refine wpAnyH_ready (rs := [1, 8]) (by kernel_rfl) (by simp) ?_
                            refine AllReadyH.cons (o := _) rfl (fun K' hK => ?_) ?_
                            · go_simp
                              refine hK.out _ _ (SK.out _ (grown_drew (grown_refl _ _))) (fun hHeld => ?_)
                              clear hK K'
                              try simp only [Act.put, List.setIfInBounds_toArray, List.set_cons_zero, List.set_cons_succ]
                              refine wpAnyH_ready (rs := [8]) (by kernel_rfl) (by simp) ?_
                              refine AllReadyH.cons (o := _) rfl (fun K' hK => ?_) ?_
                              · go_simp
                                refine HN1.out.mono ?_
                                rintro E wA ⟨rfl, rfl⟩
                                go_wp2_with fail
                                refine hK.out _ _ (SK.out _ (grown_drew (grown_refl _ _))) (fun hHeld => ?_)
                                clear hK K'
                                try simp only [Act.put, List.setIfInBounds_toArray, List.set_cons_zero, List.set_cons_succ]
                                refine wpAnyH_ready (rs := [17]) (by kernel_rfl) (by simp) ?_
                                refine AllReadyH.cons (o := _) rfl (fun K' hK => ?_) ?_
                                · go_simp
                                  refine HN2.out.mono ?_
                                  rintro E wA ⟨rfl, rfl⟩
                                  go_wp2_with fail
                                  refine hK.out _ _ (SK.out _ (grown_drew (grown_refl _ _))) (fun hHeld => ?_)
                                  clear hK K'
                                  try simp only [Act.put, List.setIfInBounds_toArray, List.set_cons_zero, List.set_cons_succ]
                                  refine wpAnyH_take (i := 18) (v := ?_) rfl (by kernel_rfl) (by kernel_rfl) (by kernel_rfl) (fun _ _ _ h => h) (Or.inl ⟨by rfl, ?_⟩) (by assumption) ?_
                                  rotate_left
                                  · intro W hSw
                                    obtain ⟨q0, q1, q2, q3, q4⟩ := hSw
                                    go_simp
                                    with_reducible rfl
                                  try simp only [Act.put, List.setIfInBounds_toArray, List.set_cons_zero, List.set_cons_succ]
                                  refine wpAnyH_ready (rs := [19]) (by kernel_rfl) (by simp) ?_
                                  refine AllReadyH.cons (o := _) rfl (fun K' hK => ?_) ?_
                                  · go_simp
                                    refine hK.out _ _ (SK.out _ (grown_drew (grown_alloc _ _))) (fun hHeld => ?_)
                                    clear hK K'
                                    try simp only [Act.put, List.setIfInBounds_toArray, List.set_cons_zero, List.set_cons_succ]
                                    refine wpAnyH_ready (rs := [20]) (by kernel_rfl) (by simp) ?_
                                    refine AllReadyH.cons (o := _) rfl (fun K' hK => ?_) ?_
                                    · go_simp
                                      refine hK.out _ _ (SW7.out) (fun hHeld => ?_)
                                      clear hK K'
                                      try simp only [Act.put, List.setIfInBounds_toArray, List.set_cons_zero, List.set_cons_succ]
                                      refine wpAnyH_take (i := 21) (v := ?_) rfl (by kernel_rfl) (by kernel_rfl) (by kernel_rfl) (fun _ _ _ h => h) (Or.inl ⟨by rfl, ?_⟩) (by assumption) ?_
                                      rotate_left
                                      · intro W hSw
                                        obtain ⟨q0, q1, q2, q3, q4⟩ := hSw
                                        go_simp
                                        with_reducible rfl
                                      try simp only [Act.put, List.setIfInBounds_toArray, List.set_cons_zero, List.set_cons_succ]
                                      refine wpAnyH_ready (rs := [22]) (by kernel_rfl) (by simp) ?_
                                      refine AllReadyH.cons (o := _) rfl (fun K' hK => ?_) ?_
                                      · go_simp
                                        refine hK.out _ _ (SN9.out) (fun hHeld => ?_)
                                        clear hK K'
                                        try simp only [Act.put, List.setIfInBounds_toArray, List.set_cons_zero, List.set_cons_succ]
                                        refine wpAnyH_done (by kernel_rfl) ?_ _
                                        go_wp2_with fail
                                        go_roundw
                                        case rel => exact ⟨2, _, by omega, rfl, STN.out⟩
                                        case measure => simp [intOf]
                                      exact AllReadyH.nil
                                    exact AllReadyH.nil
                                  exact AllReadyH.nil
                                exact AllReadyH.nil
                              exact AllReadyH.nil
                            refine AllReadyH.cons (o := _) rfl (fun K' hK => ?_) ?_
                            · go_simp
                              refine HN1.out.mono ?_
                              rintro E wA ⟨rfl, rfl⟩
                              go_wp2_with fail
                              refine hK.out _ _ (SK.out _ (grown_drew (grown_refl _ _))) (fun hHeld => ?_)
                              clear hK K'
                              try simp only [Act.put, List.setIfInBounds_toArray, List.set_cons_zero, List.set_cons_succ]
                              refine wpAnyH_ready (rs := [1, 17]) (by kernel_rfl) (by simp) ?_
                              refine AllReadyH.cons (o := _) rfl (fun K' hK => ?_) ?_
                              · go_simp
                                refine hK.out _ _ (SK.out _ (grown_drew (grown_refl _ _))) (fun hHeld => ?_)
                                clear hK K'
                                try simp only [Act.put, List.setIfInBounds_toArray, List.set_cons_zero, List.set_cons_succ]
                                refine wpAnyH_ready (rs := [17]) (by kernel_rfl) (by simp) ?_
                                refine AllReadyH.cons (o := _) rfl (fun K' hK => ?_) ?_
                                · go_simp
                                  refine HN2.out.mono ?_
                                  rintro E wA ⟨rfl, rfl⟩
                                  go_wp2_with fail
                                  refine hK.out _ _ (SK.out _ (grown_drew (grown_refl _ _))) (fun hHeld => ?_)
                                  clear hK K'
                                  try simp only [Act.put, List.setIfInBounds_toArray, List.set_cons_zero, List.set_cons_succ]
                                  refine wpAnyH_take (i := 18) (v := ?_) rfl (by kernel_rfl) (by kernel_rfl) (by kernel_rfl) (fun _ _ _ h => h) (Or.inl ⟨by rfl, ?_⟩) (by assumption) ?_
                                  rotate_left
                                  · intro W hSw
                                    obtain ⟨q0, q1, q2, q3, q4⟩ := hSw
                                    go_simp
                                    with_reducible rfl
                                  try simp only [Act.put, List.setIfInBounds_toArray, List.set_cons_zero, List.set_cons_succ]
                                  refine wpAnyH_ready (rs := [19]) (by kernel_rfl) (by simp) ?_
                                  refine AllReadyH.cons (o := _) rfl (fun K' hK => ?_) ?_
                                  · go_simp
                                    refine hK.out _ _ (SK.out _ (grown_drew (grown_alloc _ _))) (fun hHeld => ?_)
                                    clear hK K'
                                    try simp only [Act.put, List.setIfInBounds_toArray, List.set_cons_zero, List.set_cons_succ]
                                    refine wpAnyH_ready (rs := [20]) (by kernel_rfl) (by simp) ?_
                                    refine AllReadyH.cons (o := _) rfl (fun K' hK => ?_) ?_
                                    · go_simp
                                      refine hK.out _ _ (SW7.out) (fun hHeld => ?_)
                                      clear hK K'
                                      try simp only [Act.put, List.setIfInBounds_toArray, List.set_cons_zero, List.set_cons_succ]
                                      refine wpAnyH_take (i := 21) (v := ?_) rfl (by kernel_rfl) (by kernel_rfl) (by kernel_rfl) (fun _ _ _ h => h) (Or.inl ⟨by rfl, ?_⟩) (by assumption) ?_
                                      rotate_left
                                      · intro W hSw
                                        obtain ⟨q0, q1, q2, q3, q4⟩ := hSw
                                        go_simp
                                        with_reducible rfl
                                      try simp only [Act.put, List.setIfInBounds_toArray, List.set_cons_zero, List.set_cons_succ]
                                      refine wpAnyH_ready (rs := [22]) (by kernel_rfl) (by simp) ?_
                                      refine AllReadyH.cons (o := _) rfl (fun K' hK => ?_) ?_
                                      · go_simp
                                        refine hK.out _ _ (SN9.out) (fun hHeld => ?_)
                                        clear hK K'
                                        try simp only [Act.put, List.setIfInBounds_toArray, List.set_cons_zero, List.set_cons_succ]
                                        refine wpAnyH_done (by kernel_rfl) ?_ _
                                        go_wp2_with fail
                                        go_roundw
                                        case rel => exact ⟨2, _, by omega, rfl, STN.out⟩
                                        case measure => simp [intOf]
                                      exact AllReadyH.nil
                                    exact AllReadyH.nil
                                  exact AllReadyH.nil
                                exact AllReadyH.nil
                              refine AllReadyH.cons (o := _) rfl (fun K' hK => ?_) ?_
                              · go_simp
                                refine HN2.out.mono ?_
                                rintro E wA ⟨rfl, rfl⟩
                                go_wp2_with fail
                                refine hK.out _ _ (SK.out _ (grown_drew (grown_refl _ _))) (fun hHeld => ?_)
                                clear hK K'
                                try simp only [Act.put, List.setIfInBounds_toArray, List.set_cons_zero, List.set_cons_succ]
                                refine wpAnyH_take (i := 18) (v := ?_) rfl (by kernel_rfl) (by kernel_rfl) (by kernel_rfl) (fun _ _ _ h => h) (Or.inl ⟨by rfl, ?_⟩) (by assumption) ?_
                                rotate_left
                                · intro W hSw
                                  obtain ⟨q0, q1, q2, q3, q4⟩ := hSw
                                  go_simp
                                  with_reducible rfl
                                try simp only [Act.put, List.setIfInBounds_toArray, List.set_cons_zero, List.set_cons_succ]
                                refine wpAnyH_ready (rs := [1, 19]) (by kernel_rfl) (by simp) ?_
                                refine AllReadyH.cons (o := _) rfl (fun K' hK => ?_) ?_
                                · go_simp
                                  refine hK.out _ _ (SK.out _ (grown_drew (grown_refl _ _))) (fun hHeld => ?_)
                                  clear hK K'
                                  try simp only [Act.put, List.setIfInBounds_toArray, List.set_cons_zero, List.set_cons_succ]
                                  refine wpAnyH_ready (rs := [19]) (by kernel_rfl) (by simp) ?_
                                  refine AllReadyH.cons (o := _) rfl (fun K' hK => ?_) ?_
                                  · go_simp
                                    refine hK.out _ _ (SK.out _ (grown_drew (grown_alloc _ _))) (fun hHeld => ?_)
                                    clear hK K'
                                    try simp only [Act.put, List.setIfInBounds_toArray, List.set_cons_zero, List.set_cons_succ]
                                    refine wpAnyH_ready (rs := [20]) (by kernel_rfl) (by simp) ?_
                                    refine AllReadyH.cons (o := _) rfl (fun K' hK => ?_) ?_
                                    · go_simp
                                      refine hK.out _ _ (SW7.out) (fun hHeld => ?_)
                                      clear hK K'
                                      try simp only [Act.put, List.setIfInBounds_toArray, List.set_cons_zero, List.set_cons_succ]
                                      refine wpAnyH_take (i := 21) (v := ?_) rfl (by kernel_rfl) (by kernel_rfl) (by kernel_rfl) (fun _ _ _ h => h) (Or.inl ⟨by rfl, ?_⟩) (by assumption) ?_
                                      rotate_left
                                      · intro W hSw
                                        obtain ⟨q0, q1, q2, q3, q4⟩ := hSw
                                        go_simp
                                        with_reducible rfl
                                      try simp only [Act.put, List.setIfInBounds_toArray, List.set_cons_zero, List.set_cons_succ]
                                      refine wpAnyH_ready (rs := [22]) (by kernel_rfl) (by simp) ?_
                                      refine AllReadyH.cons (o := _) rfl (fun K' hK => ?_) ?_
                                      · go_simp
                                        refine hK.out _ _ (SN9.out) (fun hHeld => ?_)
                                        clear hK K'
                                        try simp only [Act.put, List.setIfInBounds_toArray, List.set_cons_zero, List.set_cons_succ]
                                        refine wpAnyH_done (by kernel_rfl) ?_ _
                                        go_wp2_with fail
                                        go_roundw
                                        case rel => exact ⟨2, _, by omega, rfl, STN.out⟩
                                        case measure => simp [intOf]
                                      exact AllReadyH.nil
                                    exact AllReadyH.nil
                                  exact AllReadyH.nil
                                refine AllReadyH.cons (o := _) rfl (fun K' hK => ?_) ?_
                                · go_simp
                                  refine hK.out _ _ (SK.out _ (grown_drew (grown_alloc _ _))) (fun hHeld => ?_)
                                  clear hK K'
                                  try simp only [Act.put, List.setIfInBounds_toArray, List.set_cons_zero, List.set_cons_succ]
                                  refine wpAnyH_ready (rs := [1]) (by kernel_rfl) (by simp) ?_
                                  refine AllReadyH.cons (o := _) rfl (fun K' hK => ?_) ?_
                                  · go_simp
                                    refine hK.out _ _ (SK.out _ (grown_drew (grown_alloc _ _))) (fun hHeld => ?_)
                                    clear hK K'
                                    try simp only [Act.put, List.setIfInBounds_toArray, List.set_cons_zero, List.set_cons_succ]
                                    refine wpAnyH_ready (rs := [20]) (by kernel_rfl) (by simp) ?_
                                    refine AllReadyH.cons (o := _) rfl (fun K' hK => ?_) ?_
                                    · go_simp
                                      refine hK.out _ _ (SW7.out) (fun hHeld => ?_)
                                      clear hK K'
                                      try simp only [Act.put, List.setIfInBounds_toArray, List.set_cons_zero, List.set_cons_succ]
                                      refine wpAnyH_take (i := 21) (v := ?_) rfl (by kernel_rfl) (by kernel_rfl) (by kernel_rfl) (fun _ _ _ h => h) (Or.inl ⟨by rfl, ?_⟩) (by assumption) ?_
                                      rotate_left
                                      · intro W hSw
                                        obtain ⟨q0, q1, q2, q3, q4⟩ := hSw
                                        go_simp
                                        with_reducible rfl
                                      try simp only [Act.put, List.setIfInBounds_toArray, List.set_cons_zero, List.set_cons_succ]
                                      refine wpAnyH_ready (rs := [22]) (by kernel_rfl) (by simp) ?_
                                      refine AllReadyH.cons (o := _) rfl (fun K' hK => ?_) ?_
                                      · go_simp
                                        refine hK.out _ _ (SN9.out) (fun hHeld => ?_)
                                        clear hK K'
                                        try simp only [Act.put, List.setIfInBounds_toArray, List.set_cons_zero, List.set_cons_succ]
                                        refine wpAnyH_done (by kernel_rfl) ?_ _
                                        go_wp2_with fail
                                        go_roundw
                                        case rel => exact ⟨2, _, by omega, rfl, STN.out⟩
                                        case measure => simp [intOf]
                                      exact AllReadyH.nil
                                    exact AllReadyH.nil
                                  exact AllReadyH.nil
                                exact AllReadyH.nil
                              exact AllReadyH.nil
                            exact AllReadyH.nil
                        · have STN : Hid (StJ W3 (k0 + 1 + 1 + 1) x.L (2 * x.N * y.N) wk vS vT vF (kroS x y) ((x.T.take i).flatMap (rowK (setOf x.F) (setOf y.F) y.N y.T) ++ (y.T.take (j + 1)).flatMap (pairK (setOf x.F) (setOf y.F) y.N ((s : Int), l, (s1 : Int)))) (kroF x y) (⟨53, 3, .slice (some ⟨bu, 0, none⟩) 1 1, 1, [.int .i64 (s : Nat), .int .i64 l, .int .i64 (s1 : Nat)]⟩ :: [tabG gB nY (setOf y.F), tabG gA nX (setOf x.F)])) := by
                            have h1 := hst.less
                            have e0 : (pairK (setOf x.F) (setOf y.F) y.N ((s : Int), l, (s1 : Int))) ((t : Int), l, (t1 : Int)) = [stepK (setOf x.F) (setOf y.F) y.N ((s : Int), l, (s1 : Int)) ((t : Int), l, (t1 : Int)) 0, stepK (setOf x.F) (setOf y.F) y.N ((s : Int), l, (s1 : Int)) ((t : Int), l, (t1 : Int)) 1] := by unfold pairK; rw [if_pos rfl]
                            show StJ _ _ _ _ _ _ _ _ _ _ _ _
                            rw [HTj.out, e0]
                            exact h1
                          clear hst
                          go_wp2_with fail
                          go_roundw
                          case rel => exact ⟨j + 1, _, by omega, by go_num, STN.out⟩
                          case measure => simp [intOf]; omega
                    · have STN : Hid (StJ W3 (k0 + 1 + 1 + 1) x.L (2 * x.N * y.N) (wj.alloc (.cells #[.int .i64 (t : Nat), .int .i64 l', .int .i64 (t1 : Nat)] 53)) vS vT vF (kroS x y) ((x.T.take i).flatMap (rowK (setOf x.F) (setOf y.F) y.N y.T) ++ (y.T.take (j + 1)).flatMap (pairK (setOf x.F) (setOf y.F) y.N ((s : Int), l, (s1 : Int)))) (kroF x y) (⟨53, 3, .slice (some ⟨bu, 0, none⟩) 1 1, 1, [.int .i64 (s : Nat), .int .i64 l, .int .i64 (s1 : Nat)]⟩ :: [tabG gB nY (setOf y.F), tabG gA nX (setOf x.F)])) := by
                        have h1 := STV.out.less
                        have e0 : (pairK (setOf x.F) (setOf y.F) y.N ((s : Int), l, (s1 : Int))) ((t : Int), l', (t1 : Int)) = [] := by unfold pairK; rw [if_neg hll]
                        show StJ _ _ _ _ _ _ _ _ _ _ _ _
                        rw [HTj.out, e0, List.append_nil]
                        exact h1
                      clear STV
                      go_wp2_with fail
                      go_roundw
                      case rel => exact ⟨j + 1, _, by omega, by go_num, STN.out⟩
                      case measure => simp [intOf]; omega
                  · have hju : ¬ (j : Int) < (y.T.length : Int) := by omega
                    have STE : Hid (StJ W3 (k0 + 1 + 1 + 1) x.L (2 * x.N * y.N) wj vS vT vF (kroS x y) ((x.T.take (i + 1)).flatMap (rowK (setOf x.F) (setOf y.F) y.N y.T)) (kroF x y) [tabG gB nY (setOf y.F), tabG gA nX (setOf x.F)]) := by
                      have h1 := ST.out.less
                      rw [show y.T.take j = y.T from List.take_of_length_le (by omega)] at h1
                      show StJ _ _ _ _ _ _ _ _ _ _ _ _
                      rw [HTk.out]
                      exact h1
                    clear ST
                    go_wp2_with fail
                    go_roundw
                    case rel => exact ⟨i + 1, _, by omega, by go_num, STE.out⟩
                    case measure => simp [intOf]; omega
              · have hji : ¬ (i : Int) < (x.T.length : Int) := by omega
                have STE : Hid (StJ W3 (k0 + 1 + 1 + 1) x.L (2 * x.N * y.N) wr vS vT vF (kroS x y) (kroT x y) (kroF x y) [tabG gB nY (setOf y.F), tabG gA nX (setOf x.F)]) := by
                  have h1 := ST.out
                  rw [List.take_of_length_le (by omega)] at h1
                  exact h1
                clear ST
                obtain ⟨aS, cS, aT, cT, aF, cF, rfl, rfl, rfl, hD⟩ := STE.out.done
                obtain ⟨v0, v1, v2, v3, v4, _⟩ := block_cells5A hD.box
                have K9 : Hid (KeepC W3 wr (k0 + 1 + 1 + 1) x.L (2 * x.N * y.N) (.slice aS (kroS x y).length cS) (.slice aT (kroT x y).length cT) (.slice aF (kroF x y).length cF)) := ⟨hD.gr, v0, v1, v2, v3, v4⟩
                have HSo : Hid (∀ W bn ba, wr.grownBy W none → wr.heap.size ≤ bn → wr.heap.size ≤ ba → OrdAt W bn ba x.L (2 * x.N * y.N) → Calls Try.prog 54 #[.slice aT (kroT x y).length cT, .func (.func 57) #[] #[.pointer (some ⟨bn, 0, none⟩)]] W (SortJ W3 (k0 + 1 + 1 + 1) x.L (2 * x.N * y.N) aS cS aT cT aF cF (kroS x y) (kroT x y) (kroF x y))) := fun W bn ba hg h1 h2 hO => STE.out.sort HQ.out.2.1 HQ.out.1 HQ.out.2.2.1 HQ.out.2.2.2 HKI.out.1 (by have := HKI.out.2.1; omega) hg h1 h2 hO
                have HOr : Hid (∀ W, Calls Try.prog 39 #[autV x.L (2 * x.N * y.N) aS (kroS x y).length cS aT (kroT x y).length cT aF (kroF x y).length cF] W (OrdNew x.L (2 * x.N * y.N) W)) := fun W => order_new _ _ _ _ _ _ _ _ _ _ _ W
                have HFin : Hid (∀ (T : List StepI) (W5 W9 : World), T.Perm (kroT x y) → (T.Pairwise fun p q => ¬ numS x.L (2 * x.N * y.N) q < numS x.L (2 * x.N * y.N) p) → DoneJ W3 (k0 + 1 + 1 + 1) x.L (2 * x.N * y.N) W5 aS cS aT cT aF cF (kroS x y) T (kroF x y) → W5.grownBy W9 (some (k0 + 1 + 1)) → TogP x y w (.returned (autV x.L (2 * x.N * y.N) aS (kroS x y).length cS aT (kroT x y).length cT aF (kroF x y).length cF)) W9) := fun T W5 W9 hp hs hd hg => by
                  have far : ∀ y, (aS = some y ∨ aT = some y ∨ aF = some y) → y.block ≠ k0 + 1 + 1 := fun y hy => by have := hd.new y hy; omega
                  have hlen := hp.length_eq
                  refine ⟨T, hp, hs, aS, aT, aF, cS, cT, cF, ?_, ⟨?_, ?_, ?_, ?_, ?_, ?_⟩, ?_, ?_⟩
                  · show _ = Ending.returned (autV x.L (2 * x.N * y.N) aS (kroS x y).length cS aT T.length cT aF (kroF x y).length cF)
                    rw [hlen]
                  · exact intsN_far hd.iS (fun _ y hy => far y (.inl hy)) hg
                  · exact stepsN_far hd.iT (fun _ y hy => far y (.inr (.inl hy))) hg
                  · exact intsN_far hd.iF (fun _ y hy => far y (.inr (.inr hy))) hg
                  · have := HKI.out.2.2.1; show (kroS x y).length ≤ maxLen; unfold maxLen; omega
                  · have := HKI.out.2.1; show T.length ≤ maxLen; unfold maxLen; omega
                  · have := HKI.out.2.2.2; show (kroF x y).length ≤ maxLen; unfold maxLen; omega
                  · exact grown_new (grown_trans G3.out hd.gr) hg (by omega)
                  · exact fun y hy => by have := hd.new y hy; omega
                clear STE hD v0 v1 v2 v3 v4
                generalize hnS : (kroS x y).length = nS at *
                generalize hnF : (kroF x y).length = nF at *
                generalize hnT : (kroT x y).length = nT at *
                have HnS : Hid ((kroS x y).length = nS) := hnS
                have HnF : Hid ((kroF x y).length = nF) := hnF
                have HnT : Hid ((kroT x y).length = nT) := hnT
                clear hnS hnF hnT
                go_wp2_with fail
                clear BX IT IT' QT QT' HLT
                generalize hN2 : 2 * x.N * y.N = N2 at *
                generalize hLL : x.L = LL at *
                go_region_held3 (fun W => KeepC W3 W (k0 + 1 + 1 + 1) LL N2 (.slice aS nS cS) (.slice aT nT cT) (.slice aF nF cF))
                  (first | (with_reducible exact KeepC.drew K9.out) | (with_reducible exact KeepC.call (by assumption) hgA) | (with_reducible exact KeepC.drew (by assumption)) | (with_reducible exact KS.out) | assumption)
                  (first
                  | (go_at_call 39; refine (HOr.out _).mono ?_; rintro E wA ⟨bn, ba, hb1, hb2, rfl, hO, hgA⟩; have GA : Hid (wr.grownBy wA none) := grown_trans (by first | exact grown_refl _ _ | exact grown_drew (grown_refl _ _)) hgA; have OA : Hid (OrdAt wA bn ba LL N2 ∧ wr.heap.size ≤ bn ∧ wr.heap.size ≤ ba) := ⟨hO, hb1, hb2⟩)
                  | (go_at_call 54; refine (HSo.out _ bn ba (by first | exact GA.out | exact grown_drew GA.out) OA.out.2.1 OA.out.2.2 (by first | exact OA.out.1 | exact OA.out.1.grown (grown_drew (grown_refl _ _)))).mono ?_; rintro E w5 ⟨rfl, T5, hp5, hs5, hD5⟩;
                      have HT5 : Hid (T5.Perm (kroT x y) ∧ (T5.Pairwise fun p q => ¬ numS LL N2 q < numS LL N2 p) ∧ DoneJ W3 (k0 + 1 + 1 + 1) LL N2 w5 aS cS aT cT aF cF (kroS x y) T5 (kroF x y)) := ⟨hp5, hs5, hD5⟩;
                      have KS : Hid (KeepC W3 w5 (k0 + 1 + 1 + 1) LL N2 (.slice aS nS cS) (.slice aT nT cT) (.slice aF nF cF)) := (by
                        have h1 := hD5.box
                        obtain ⟨v0, v1, v2, v3, v4, _⟩ := block_cells5A h1
                        have e5 : T5.length = nT := hp5.length_eq.trans HnT.out
                        rw [e5] at v3
                        exact ⟨hD5.gr, v0, v1, HnS.out ▸ v2, v3, HnF.out ▸ v4⟩);
                      clear hp5 hs5 hD5))
                all_goals
                  have RC : Hid (w5.heap[k0 + 1 + 1]? = some (.cells #[.int .i64 0, .int .i64 0, .slice none 0 0, .slice none 0 0, .slice none 0 0] 25 (0, 0))) := (HT5.out.2.2.gr.block _ R3.out.2 (by simp)).trans R3.out.1
                  obtain ⟨z0, z1, z2, z3, z4, zf⟩ := block_cells5A RC.out
                  have zf0 := zf 0
                  have zf1 := zf 1
                  have zf2 := zf 2
                  have zf3 := zf 3
                  have zf4 := zf 4
                  clear zf
                  obtain ⟨W9, hW9, hg9, hR9⟩ := five_store RC.out (.int .i64 LL) (.int .i64 N2) (.slice aS nS cS) (.slice aT nT cT) (.slice aF nF cF)
                  have HW9 : Hid (W9 = _) := hW9
                  have R9 : Hid (W9.heap[k0 + 1 + 1]? = some (.cells #[.int .i64 LL, .int .i64 N2, .slice aS nS cS, .slice aT nT cT, .slice aF nF cF] 25 (0, 0))) := hR9
                  have Fin : Hid (TogP x y w (.returned (autV LL N2 aS nS cS aT nT cT aF nF cF)) W9) := HFin.out T5 w5 W9 HT5.out.1 HT5.out.2.1 HT5.out.2.2 hg9
                  obtain ⟨_, u0, u1, u2, u3, u4⟩ := KS.out
                  clear hW9 hg9 hR9 HT5 HSo HOr HFin KS K9 GA OA hgA hO
                  go_wp2_with fail
                  rw [← HW9.out]
                  obtain ⟨v0, v1, v2, v3, v4, _⟩ := block_cells5A R9.out
                  clear z0 z1 z2 z3 z4 zf0 zf1 zf2 zf3 zf4 u0 u1 u2 u3 u4
                  go_wp2_with fail
                  exact bodyPost_ret (v := autV LL N2 aS nS cS aT nT cT aF nF cF) (by simp [results, Try.results30, go_sem, v0, v1, v2, v3, v4]) rfl Fin.out

end Go.Proofs.Ytaangdomdeklhaa
