/- DetLeast holds: whatever automaton and numbers come in, in whatever memory, shared or not, the program makes the one least automaton and finds the first word that tells two states apart, as the reference does; it writes nothing that was there; there are no conditions. -/
import Derived.Test.YtofjboelplknhaaDLeastW
import Derived.Test.YtofjboelplknhaaRSame
import Derived.Test.YtofjboelplknhaaLKey
import Derived.SizedLaws
namespace Go.Proofs.Ytofjboelplknhaa
open Go.ChangeShapes Go.WideShapes Go.ChangeAt Go.RowKit Go.Joins
set_option linter.unusedVariables false

theorem Try.bytes3 : Try.prog.bytesOf 3 = 8 := by kernel_rfl
theorem Try.bytes23 : Try.prog.bytesOf 23 = 24 := by kernel_rfl

theorem weightsAll_mem {H : Type} {P : Program} {e : TypeId} : ∀ {l : List (DataW H)} {d : DataW H}, d ∈ l → ∀ n ∈ d.weights P e, n ∈ DataW.weightsAll P e l
  | x :: l, d, h, n, hn => by
    simp only [DataW.weightsAll, List.mem_append]
    rcases List.mem_cons.1 h with rfl | h
    · exact Or.inl hn
    · exact Or.inr (weightsAll_mem h n hn)

theorem weight_of_trod {H : Type} {enc : TypeId × Value → H} {W : World} {fuel : Nat} {a : Option Addr} {n c : Nat} {x : DataW H × List MemPlace} (h : DataW.trod enc Try.prog W 0 (fun _ => true) true fuel 23 [.slice a n c] = some x)
    (hw : ∀ m ∈ x.1.weights Try.prog 23, m ≤ reachBytes) : n ≤ 17592186044416 := by
  rcases open_ints Try.underlying23 Try.underlying3 Try.cells3 h with ⟨hcs, _⟩ | ⟨x', len, cap, zs, hcs, _, hl, hm, hz, hx, hcell, hwz⟩
  · simp only [List.cons.injEq, Value.slice.injEq, and_true] at hcs
    omega
  · simp only [List.cons.injEq, Value.slice.injEq, and_true] at hcs
    subst hx
    simp only [if_true] at hz
    have := hw (((lits (H := H) .i64 (zs.take len)).length + (lits (H := H) .i64 (zs.drop len)).length) * Try.prog.bytesOf 3) (by simp [DataW.weights, Try.underlying23])
    rw [Try.bytes3] at this
    simp only [lits, List.length_map, List.length_take, List.length_drop, reachBytes] at this
    omega

theorem rows_weight {H : Type} {enc : TypeId × Value → H} {W : World} {fuel : Nat} {a : Option Addr} {c : Nat} {R : List (List Int)} {x : DataW H × List MemPlace} (h : DataW.trod enc Try.prog W 0 (fun _ => true) true fuel 22 [.slice a R.length c] = some x)
    (hR : RowsAt W a R) (hw : ∀ m ∈ x.1.weights Try.prog 22, m ≤ reachBytes) : R.length * 24 ≤ 140737488355328 ∧ ∀ i, i < R.length → (R.getD i []).length ≤ 17592186044416 := by
  rcases Deep.open_int_rows Try.underlying22 Try.underlying23 Try.underlying3 Try.cells23 Try.cells3 h with ⟨hcs, _⟩ | ⟨y, len, cap, A, L, C, Z, hcs, _, hl, hm, hx, hr⟩
  · simp only [List.cons.injEq, Value.slice.injEq, and_true] at hcs
    have h0 : R.length = 0 := hcs.2.1
    exact ⟨by omega, fun i hi => by omega⟩
  · simp only [List.cons.injEq, Value.slice.injEq, and_true] at hcs
    obtain ⟨rfl, hlen, rfl⟩ := hcs
    subst hx
    have hu := Try.underlying22
    constructor
    · have := hw (((List.range len).map fun r => Deep.intRow (H := H) .i64 (A r) (L r) (Z r)).length * Try.prog.bytesOf 23 + ((List.range (c - len)).map fun j => Deep.intRow (H := H) .i64 (A (len + j)) (L (len + j)) (Z (len + j))).length * Try.prog.bytesOf 23) (by
        rw [← Nat.add_mul]
        simp [DataW.weights, hu])
      rw [Try.bytes23] at this
      simp only [List.length_map, List.length_range, reachBytes] at this
      omega
    · intro i hi
      obtain ⟨k1, k2, k3, k4, _, k6, k7⟩ := hr i (by omega)
      rcases hR with h0 | ⟨b, off, ha, hc⟩
      · rw [h0] at hi; simp at hi
      · obtain ⟨x2, c2, e1, _, _⟩ := hc i hi
        simp only [Option.some.injEq] at ha
        subst ha
        rw [add_off, e1] at k1
        simp only [Option.some.injEq, Value.slice.injEq] at k1
        rw [k1.2.1]
        cases hA : A i with
        | none => have := k6 hA; omega
        | some z =>
          have hmem : Deep.intRow (H := H) .i64 (A i) (L i) (Z i) ∈ ((List.range len).map fun r => Deep.intRow (H := H) .i64 (A r) (L r) (Z r)) := List.mem_map.2 ⟨i, List.mem_range.2 (by omega), rfl⟩
          have := hw (((lits (H := H) .i64 ((Z i).take (L i))).length + (lits (H := H) .i64 ((Z i).drop (L i))).length) * Try.prog.bytesOf 3) (by
            have h3 := weightsAll_mem (P := Try.prog) (e := 23) hmem (((lits (H := H) .i64 ((Z i).take (L i))).length + (lits (H := H) .i64 ((Z i).drop (L i))).length) * Try.prog.bytesOf 3) (by simp [Deep.intRow, hA, DataW.weights, Try.underlying23])
            simp only [DataW.weights, hu]
            exact List.mem_cons_of_mem _ (List.mem_append_left _ h3))
          rw [Try.bytes3] at this
          simp only [lits, List.length_map, List.length_take, List.length_drop, reachBytes] at this
          omega

set_option maxRecDepth 100000 in
theorem det_sized {H : Type} {enc : TypeId × Value → H} {W : World} {base : Nat} {v : Value} {d : DataW H} {p : List MemPlace} (hv : Value.okWide Try.prog W .any base 25 v) (h : DataW.Trod enc Try.prog W 0 (fun _ => true) true 25 v d p) (hw : ∀ m ∈ d.weights Try.prog 25, m ≤ reachBytes) :
    ∃ (L S : Int) (a : Option Addr) (c : Nat) (R : List (List Int)) (a' : Option Addr) (c' : Nat) (M : List Int), v = .agg #[.int .i64 L, .int .i64 S, .slice a R.length c, .slice a' M.length c'] ∧ DetAt W ⟨L, S, R, M⟩ a a' ∧
      R.length * 24 ≤ 140737488355328 ∧ (∀ i, i < R.length → (R.getD i []).length ≤ 17592186044416) ∧ M.length ≤ 17592186044416 := by
  obtain ⟨c0, c1, c2, c3, y0, y1, y2, y3, m, rfl, rfl, _, hy0, hy1, hy2, hy3⟩ := open_agg4 Try.underlying25 (by kernel_rfl) Try.cells25 hv h
  obtain ⟨n0, e0, _, w0⟩ := DataW.trod_int Try.underlying3 hy0
  obtain ⟨n1, e1, _, w1⟩ := DataW.trod_int Try.underlying3 hy1
  obtain ⟨a, c, R, e2, i2, m2⟩ := rows_of_trod hy2
  obtain ⟨a', c', M, e3, i3, m3⟩ := ints_of_trod hy3
  simp only [List.cons.injEq, and_true] at e0 e1 e2 e3
  subst e0 e1 e2 e3
  have hw2 : ∀ m ∈ y2.1.weights Try.prog 22, m ≤ reachBytes := fun m hm => hw m (by
    simp [DataW.weights, Try.underlying25, DataW.weightsEach]
    exact .inr (.inr (.inl hm)))
  have hw3 : ∀ m ∈ y3.1.weights Try.prog 23, m ≤ reachBytes := fun m hm => hw m (by
    simp [DataW.weights, Try.underlying25, DataW.weightsEach]
    exact .inr (.inr (.inr hm)))
  obtain ⟨z1, z2⟩ := rows_weight hy2 i2 hw2
  exact ⟨n0, n1, a, c, R, a', c', M, rfl, ⟨i2, i3, m2, m3⟩, z1, z2, weight_of_trod hy3 hw3⟩

/-- A key of the classes. -/
theorem dleast_walk (L S p q : Int) (R : List (List Int)) (M : List Int) (a a' : Option Addr) (c c' : Nat) (w : World) (hD : DetAt w ⟨L, S, R, M⟩ a a') (hn : R.length * 24 ≤ 140737488355328) (hm : ∀ i, i < R.length → (R.getD i []).length ≤ 17592186044416) (hM : M.length ≤ 17592186044416) :
    Calls Try.prog 3 #[detV L S a R.length c a' M.length c', .int .i64 p, .int .i64 q] w (Says (.bool true) w) := by
  have hnm : R.length ≤ maxLen := by unfold maxLen; omega
  have hmm : ∀ i, i < R.length → (R.getD i []).length ≤ maxLen := fun i hi => by have := hm i hi; unfold maxLen; omega
  have hMm : M.length ≤ maxLen := by unfold maxLen; omega
  have HDO : Hid (∀ W, w.grownBy W none → Calls Try.prog 9 #[detV L S a R.length c a' M.length c'] W (CopyPost L S R M W)) := fun W hW => (detOf_any L S R M a a' c c' W (hD.grown hW) hn hm hM).mono fun e w' h => copy_of_detOf h hnm hmm hMm
  have HSm : Hid (∀ W aR cR aM cM, w.grownBy W none → DetAt W ⟨L, S, R, M⟩ aR aM → Calls Try.prog 12 #[detV L S aR R.length cR aM M.length cM, detV L S a R.length c a' M.length c'] W (Says (.bool true) W)) := fun W aR cR aM cM hW hd => (same_any L S L S R R M M aR aM a a' cR cM c c' W hd (hD.grown hW)).mono fun e w' h => says_of_tells h rfl
  have HCk : ∀ W, w.grownBy W none → Calls Try.prog 13 #[detV L S a R.length c a' M.length c'] W (Says (.int .i64 (checkF ⟨L, S, R, M⟩)) W) := fun W hW => checkR_any L S R M a a' c c' W (hD.grown hW)
  by_cases hc : checkF ⟨L, S, R, M⟩ = 0
  · have hG := good_of_check hc
    rw [hc] at HCk
    have hL1 : 1 ≤ L := hG.l1
    have hL4 : L ≤ 4 := hG.l4
    have hn3 : R.length ≤ 3000 := hG.n3
    obtain ⟨l, rfl⟩ : ∃ l : Nat, L = l := ⟨L.toNat, by omega⟩
    obtain ⟨κ, hκ⟩ := ner_key (Dfa.nx ⟨l, S, R, M⟩) (Dfa.mk1 ⟨l, S, R, M⟩) R.length l
    have HLe : Hid (∀ W aR cR aM cM, DetAt W ⟨l, S, R, M⟩ aR aM → Calls Try.prog 10 #[detV l S aR R.length cR aM M.length cM] W (LeastGPost (Dfa.nx ⟨l, S, R, M⟩) (Dfa.mk1 ⟨l, S, R, M⟩) R.length l S.toNat W)) := fun W aR cR aM cM hd => leastE_good l S R M aR aM cR cM W hd hG
    have HLr : Hid (∀ W, w.grownBy W none → Calls Try.prog 15 #[detV l S a R.length c a' M.length c'] W (LeastPost (Dfa.nx ⟨l, S, R, M⟩) (Dfa.mk1 ⟨l, S, R, M⟩) R.length l S.toNat W)) := fun W hW => leastR_any l S R M a a' c c' W (hD.grown hW) hG
    have HNo : Hid (∀ W (L S : Int) aR nR cR aM nM cM, nR ≤ 3000 → nM ≤ 3000 → Calls Try.prog 14 #[detV L S aR nR cR aM nM cM] W (TellsAny W)) := fun W L S aR nR cR aM nM cM h1 h2 => (noDet_any L S nR nM aR aM cR cM W (by omega) (by omega)).mono fun e w' ⟨b, h, _, hg⟩ => ⟨b, h, hg⟩
    have HSl : Hid (∀ W aR cR aM cM aR' cR' aM' cM' (rs rs' : List (Value × List Int)) (M1 M2 : List Int), LeastOf (Dfa.nx ⟨l, S, R, M⟩) (Dfa.mk1 ⟨l, S, R, M⟩) R.length l S.toNat (rs.map (·.2)) M1 → LeastOf (Dfa.nx ⟨l, S, R, M⟩) (Dfa.mk1 ⟨l, S, R, M⟩) R.length l S.toNat (rs'.map (·.2)) M2 → DetAt W ⟨l, 0, rs.map (·.2), M1⟩ aR aM → DetAt W ⟨l, 0, rs'.map (·.2), M2⟩ aR' aM' → Calls Try.prog 12 #[detV l 0 aR rs.length cR aM M1.length cM, detV l 0 aR' rs'.length cR' aM' M2.length cM'] W (Says (.bool true) W)) := fun W aR cR aM cM aR' cR' aM' cM' rs rs' M1 M2 h1 h2 d1 d2 => by
      obtain ⟨e1, e2⟩ := h1.eq h2 hκ
      have h3 := same_any l 0 l 0 (rs.map (·.2)) (rs'.map (·.2)) M1 M2 aR aM aR' aM' cR cM cR' cM' W d1 d2
      rw [List.length_map, List.length_map] at h3
      exact h3.mono fun e w' h => says_of_tells h (by rw [e1, e2]; rfl)
    have HSp : Hid (∀ B W aR cR aM cM (rs : List (Value × List Int)) (M1 : List Int) r, B ≤ W.heap.size → rs.length ≤ 3000 → Owns B W ((23, .slice aR rs.length cR, rs.map (·.1)) :: (3, .slice aM M1.length cM, vals M1) :: (rowItems rs ++ r)) → Calls Try.prog 16 #[detV l 0 aR rs.length cR aM M1.length cM] W (SpoilDPost B r W)) := fun B W aR cR aM cM rs M1 r hB h1 ho => spoilDet_any B l 0 aR aM cR cM rs M1 r W hB (by omega) ho
    obtain ⟨T, hT⟩ : ∃ T, tellT (Dfa.nx ⟨l, S, R, M⟩) (Dfa.mk1 ⟨l, S, R, M⟩) p.toNat q.toNat = T := ⟨_, rfl⟩
    have HAp : Hid (∀ W aR cR aM cM, DetAt W ⟨l, S, R, M⟩ aR aM → Calls Try.prog 11 #[detV l S aR R.length cR aM M.length cM, .int .i64 p, .int .i64 q] W (WordPost2 (fun zs is g => (IsSt p R.length ∧ IsSt q R.length → g = 0 ∧ FirstOf T l zs is) ∧ (¬ (IsSt p R.length ∧ IsSt q R.length) → zs = [] ∧ is = false ∧ g = 2)) W)) := fun W aR cR aM cM hd => by
      by_cases hst : IsSt p R.length ∧ IsSt q R.length
      · obtain ⟨⟨hp0, hpn⟩, ⟨hq0, hqn⟩⟩ := hst
        obtain ⟨p', rfl⟩ : ∃ p' : Nat, p = p' := ⟨p.toNat, by omega⟩
        obtain ⟨q', rfl⟩ : ∃ q' : Nat, q = q' := ⟨q.toNat, by omega⟩
        simp only [Int.toNat_natCast] at hT
        have h1 := apartE_good l S p' q' l R M aR aM cR cM W T hd hG (by omega) (by omega) (fun W' hW' => by
          have := apartP_any l S R M aR aM cR cM p' q' W' (hd.grown hW') hG.fit (by omega) (by omega)
          rw [hT] at this
          exact this)
        refine h1.mono ?_
        rintro e w' ⟨zs, is, az, cz, rfl, h2, h3, h4, h5⟩
        exact ⟨zs, is, 0, az, cz, rfl, ⟨fun _ => ⟨rfl, h2⟩, fun hx => absurd ⟨⟨hp0, hpn⟩, ⟨hq0, hqn⟩⟩ hx⟩, h4, h5⟩
      · refine (apartE_out l S p q R M aR aM cR cM W hd hG hst).mono ?_
        rintro e w' ⟨rfl, h5⟩
        exact ⟨[], false, 2, none, 0, rfl, ⟨fun hx => absurd hx hst, fun _ => ⟨rfl, rfl, rfl⟩⟩, (Owns.no _ _).empty 3, h5⟩
    have HAr : Hid (∀ W, w.grownBy W none → IsSt p R.length → IsSt q R.length → Calls Try.prog 17 #[detV l S a R.length c a' M.length c', detV l S a R.length c a' M.length c', .int .i64 p, .int .i64 q] W fun e w' => ∃ (zs : List Nat) (is : Bool) (az : Option Addr) (cz : Nat), e = .returned (.tuple #[.slice az zs.length cz, .bool is]) ∧ (FirstOf T l zs is ∧ zs.length ≤ 100000000) ∧ Ints w' az (natInts zs) ∧ W.grownBy w' none) := fun W hW hp hq => by
      obtain ⟨hp0, hpn⟩ := hp
      obtain ⟨hq0, hqn⟩ := hq
      obtain ⟨p', rfl⟩ : ∃ p' : Nat, p = p' := ⟨p.toNat, by omega⟩
      obtain ⟨q', rfl⟩ : ∃ q' : Nat, q = q' := ⟨q.toNat, by omega⟩
      simp only [Int.toNat_natCast] at hT
      have h1 := apartR_any l S l S R R M M a a' a a' c c' c c' p' q' W (hD.grown hW) hG (hD.grown hW) hG (by omega) (by omega) (fun W' hW' => walkedR_any l S S R R M M a a' a a' c c' c c' p' q' W' (hD.grown (grown_trans hW hW')) hG (hD.grown (grown_trans hW hW')) hG (by omega) (by omega))
      refine h1.mono ?_
      rintro e w' ⟨zs, is, az, cz, rfl, h2, h3, h4, h5⟩
      have h6 : FirstOf T l zs is := by rw [← hT]; exact h2
      exact ⟨zs, is, az, cz, rfl, ⟨h6, h3⟩, h4, h5⟩
    have HWd : Hid (∀ W az cz az' cz' (zs : List Nat) is, (FirstOf T l zs is ∧ zs.length ≤ 100000000) → Ints W az (natInts zs) → Ints W az' (natInts zs) → Calls Try.prog 18 #[.slice az zs.length cz, .slice az' zs.length cz'] W (Says (.bool true) W)) := fun W az cz az' cz' zs is h1 i1 i2 => by
      have h3 := wordsR_any az az' cz cz' (natInts zs) (natInts zs) W i1 i2 (by rw [List.length_map]; unfold maxLen; omega) (by rw [List.length_map]; unfold maxLen; omega)
      rw [List.length_map] at h3
      exact h3.mono fun e w' h => says_of_tells h rfl
    exact dleast_B S p q l S.toNat R M a a' c c' w _ _ _ (fun zs is => FirstOf T l zs is ∧ zs.length ≤ 100000000) hn3 (by omega) HDO HLe HAp HSm HCk HNo HLr HSl HSp HAr HWd (fun zs is g hF hx => hF.2 hx) (fun zs is g zs' is' hF hF' hp hq => by
      obtain ⟨e1, e2⟩ := hF.1 ⟨hp, hq⟩
      obtain ⟨e3, e4⟩ := FirstOf.one (by omega) e2 hF'.1
      exact ⟨e3, e4, e1⟩)
  · exact dleast_A L S p q (checkF ⟨L, S, R, M⟩) R M a a' c c' w hc HDO (fun W aR cR aM cM hd => leastE_bad L S R M aR aM cR cM W hd hc) (fun W aR cR aM cM hd => apartE_bad L S p q R M aR aM cR cM W hd hc) HSm HCk (fun W => (noDet_any 0 0 0 0 none none 0 0 W (by omega) (by omega)).mono fun e w' h => says_of_tells h ⟨rfl, rfl, rfl⟩)

theorem dleast_own : ownKnob Try.prog.godebug = none := by kernel_rfl

set_option maxRecDepth 100000 in
theorem dleast_lifted (os : Os) (started : os.Started) (H : Type) (enc : TypeId × Value → H) :
    ReturnsInHanded {} Try.checked os 3 .any (Rows.detLeastSpec.pre6 enc Try.prog Try.f3 Rows.detLeastRow.domain false) (Rows.detLeastSpec.post enc Try.prog Try.f3 false true false false) := by
  refine returnsInHanded_of_change_sized (C := Try.checked) dleast_own started (by kernel_rfl) Try.func3
    (ChangeSpec.witness6 (enc := enc) (C := Try.checked) false ⟨#[], #[.agg #[.int .i64 0, .int .i64 0, .slice none 0 0, .slice none 0 0], .int .i64 0, .int .i64 0], []⟩ 8 (by kernel_rfl) (by kernel_rfl) (by kernel_rfl) (by kernel_rfl)) ?_
  intro W base args ds gs before hval0 hW hcnd hsz0 _
  have hval : ∀ (j : Nat) t v, Try.f3.params[j]? = some t → args[j]? = some v → Value.okWide Try.prog W .any base t v := hval0
  have hsz : (DataW.weightsEach Try.prog (Try.f3.params.toList ++ Rows.detLeastSpec.plain.varTypes Try.prog) (ds ++ gs)).all (· ≤ reachBytes) = true := hsz0
  have hW' := hW
  obtain ⟨p, q, hA0, hV, rfl, hfz, hnd⟩ := hW
  have hA : DataW.TrodAll enc Try.prog W 0 (fun _ => true) true Try.f3.params.toList args.toList ds p := hA0
  rw [Try.params3] at hA hval hsz
  obtain ⟨v0, vs0, d0, ds0, p0, q0, hargs, rfl, rfl, h0, r0⟩ := trodAll_cons hA
  obtain ⟨v1, vs1, d1, ds1, p1, q1, rfl, rfl, rfl, h1, r1⟩ := trodAll_cons r0
  obtain ⟨v2, vs2, d2, ds2, p2, q2, rfl, rfl, rfl, h2, r2⟩ := trodAll_cons r1
  obtain ⟨rfl, rfl, rfl⟩ := trodAll_nil r2
  obtain rfl : args = #[v0, v1, v2] := by cases args; simp_all
  obtain ⟨rfl, rfl⟩ := trodVars_none hV
  have lt0 : ∀ x ∈ p0, x.block < W.heap.size := by obtain ⟨m, hm⟩ := h0; exact DataW.trod_lt m _ _ _ hm
  obtain ⟨n1, rfl, rfl, rfl, wn1⟩ := open_int Try.underlying3 (hval 1 3 v1 rfl rfl) h1
  obtain ⟨n2, rfl, rfl, rfl, wn2⟩ := open_int Try.underlying3 (hval 2 3 v2 rfl rfl) h2
  have hw0 : ∀ m ∈ d0.weights Try.prog 25, m ≤ reachBytes := fun m hm => by
    have := List.all_eq_true.1 hsz m (DataW.weights_mem_each (j := 0) rfl rfl m hm)
    simpa using this
  obtain ⟨L, S, a, c, R, a', c', M, rfl, hD, z1, z2, z3⟩ := det_sized (hval 0 25 v0 rfl rfl) h0 hw0
  clear hA0 hval0 hsz0
  refine (dleast_walk L S n1 n2 R M a a' c c' W hD z1 z2 z3).mono fun e W' ⟨he, hg⟩ => ?_
  subst he
  have bel : Below W.heap.size W W' := below_of_grown hg
  exact ⟨_, rfl, _, _, _, [], _, [], hW', trodAll_mk1 (shut_bool Try.underlying4 _), (trodAll_cons_mk (Below.trod Try.laidOut (by kernel_rfl) (of_decide_eq_true (by kernel_rfl)) h0 bel lt0) (trodAll_cons_mk (shut_int Try.underlying3 wn1) (trodAll_cons_mk (shut_int Try.underlying3 wn2) trodAll_mk0))), rfl, bel.frame _, fun h => by cases h⟩

theorem detLeast_holds : Rows.DetLeastSaid :=
  OpenClaim.holds_of_wide 3 Try.f3 rfl rfl rfl rfl rfl rfl rfl ⟨rfl, rfl, rfl, rfl, rfl⟩ rfl rfl rfl rfl rfl (by kernel_rfl) Try.func3 (by kernel_rfl)
    (of_decide_eq_true (by kernel_rfl)) (by unfold Func.isWrapper; first | (rw [if_pos (by decide +kernel)]; kernel_rfl) | (rw [if_neg (by decide +kernel)]; exact ⟨rfl, rfl⟩))
    (fun os started H enc _ => dleast_lifted os started H enc)
#print axioms detLeast_holds
end Go.Proofs.Ytofjboelplknhaa
