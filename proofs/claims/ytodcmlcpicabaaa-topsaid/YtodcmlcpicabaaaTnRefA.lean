/- The reference's words of a transducer: letters, Words, Long. -/
import Derived.Test.YtodcmlcpicabaaaBas
namespace Go.Proofs.Ytodcmlcpicabaaa
open Go.RowKit
set_option linter.unusedVariables false
set_option linter.unusedSimpArgs false

def LettersP (O : Int) (u : List Int) (w : World) (e : Ending) (w' : World) : Prop := ∃ z, e = .returned (.int .i64 z) ∧ (LetT O u → z = 0) ∧ (¬ LetT O u → z = 2) ∧ w' = w
set_option maxHeartbeats 1600000 in
set_option maxRecDepth 100000 in
theorem lettersR_any (u : List Int) (a : Option Addr) (c : Nat) (O : Int) (w : World) (h : Ints w a u) (hm : u.length ≤ maxLen) :
    Calls Try.prog 23 #[.slice a u.length c, .int .i64 O] w (LettersP O u w) := by
  unfold maxLen at hm
  have HI : Hid (Ints w a u) := h
  obtain ⟨Po, hPo⟩ : ∃ P, P = LettersP O u w := ⟨_, rfl⟩
  have HP : Hid ((LetT O u → Po (.returned (.int .i64 0)) w) ∧ (¬ LetT O u → Po (.returned (.int .i64 2)) w)) := by rw [hPo]; exact ⟨fun hh => ⟨0, rfl, fun _ => rfl, fun k => absurd hh k, rfl⟩, fun hh => ⟨2, rfl, fun k => absurd k hh, fun _ => rfl, rfl⟩⟩
  rw [← hPo]
  clear h hPo
  go_enter Try.func23, Try.ntmps23
  go_wp2_with fail
  go_loop [5] (fun v => ∃ k : Nat, k ≤ u.length ∧ v = .int .i64 k ∧ ∀ j, j < k → 0 ≤ u.getD j 0 ∧ u.getD j 0 < O) (fun v => u.length - (intOf v).toNat)
  case atStart => exact ⟨0, Nat.zero_le _, rfl, fun j hj => by omega⟩
  case round =>
    obtain ⟨k, hk, rfl, hg⟩ := hrel
    have HJ : Hid (∀ j, j < k → 0 ≤ u.getD j 0 ∧ u.getD j 0 < O) := hg
    clear hg
    by_cases hlt : k < u.length
    · obtain ⟨bb, ob, rfl, hc⟩ := HI.out.at hlt
      have hck := hc k hlt
      have ik : (k : Int) < (u.length : Int) := by omega
      obtain ⟨z, hz⟩ : ∃ z, u.getD k 0 = z := ⟨_, rfl⟩
      rw [hz] at hck
      have HZ : Hid (u.getD k 0 = z) := hz
      clear hz hc
      by_cases f1 : z < 0
      · have d1 : decide (z < 0) = true := by simpa using f1
        have F : Hid (Po (.returned (.int .i64 2)) w) := HP.out.2 fun hh => by have := (hh k hlt).1; rw [HZ.out] at this; omega
        clear f1
        go_wp2_with fail
        first | exact F.out | (go_ret; exact F.out)
      · have d1 : decide (z < 0) = false := by simpa using f1
        by_cases f2 : O ≤ z
        · have d2 : decide (O ≤ z) = true := by simpa using f2
          have F : Hid (Po (.returned (.int .i64 2)) w) := HP.out.2 fun hh => by have := (hh k hlt).2; rw [HZ.out] at this; omega
          clear f1 f2
          go_wp2_with fail
          first | exact F.out | (go_ret; exact F.out)
        · have d2 : decide (O ≤ z) = false := by simpa using f2
          have HN : Hid (∀ j, j < k + 1 → 0 ≤ u.getD j 0 ∧ u.getD j 0 < O) := fun j hj => by
            by_cases hjk : j = k
            · subst hjk; rw [HZ.out]; omega
            · exact HJ.out j (by omega)
          clear f1 f2
          go_wp2_with fail
          go_round
          case rel => exact ⟨k + 1, by omega, by go_num, HN.out⟩
          case measure => simp [intOf]; omega
    · have ik : ¬ (k : Int) < (u.length : Int) := by omega
      have F : Hid (Po (.returned (.int .i64 0)) w) := HP.out.1 fun j hj => HJ.out j (by omega)
      go_wp2_with fail
      first | exact F.out | (go_ret; exact F.out)

def ShortW (R : List (List Int)) : Prop := ∀ u, u ∈ R → u.length ≤ 8
def WordsRP (x : TrI) (w : World) (e : Ending) (w' : World) : Prop := ∃ a c, e = .returned (.slice a (sayR x).length c) ∧ RowsAt w' a (sayR x) ∧ w.grownBy w' none ∧ ∀ y, a = some y → w.heap.size ≤ y.block
/-- What has been put together behind k rows. -/
def sayK (x : TrI) (k : Nat) : List (List Int) := x.F :: (x.E ++ (x.Y.take k).flatten)
theorem sayK_succ (x : TrI) {k : Nat} (h : k < x.Y.length) : sayK x (k + 1) = sayK x k ++ x.Y.getD k [] := by
  unfold sayK
  rw [show x.Y.take (k + 1) = x.Y.take k ++ [x.Y.getD k []] by rw [List.getD, List.getElem?_eq_getElem h, Option.getD_some]; simp]
  simp
theorem sayK_all (x : TrI) {k : Nat} (h : ¬ k < x.Y.length) : sayK x k = sayR x := by
  unfold sayK sayR
  rw [List.take_of_length_le (by omega)]
theorem sayK_le (x : TrI) (k : Nat) : (sayK x k).length ≤ (sayR x).length := by
  have h : x.Y.flatten = (x.Y.take k).flatten ++ (x.Y.drop k).flatten := by rw [← List.flatten_append, List.take_append_drop]
  unfold sayK sayR
  rw [h]
  simp
def WrSt (x : TrI) (W1 : World) (k : Nat) (v3 : Value) (W : World) : Prop := ∃ a c ps, v3 = .slice a (List.length ps) c ∧ wordsT ps = sayK x k ∧ OwnR W1 W a c ps

attribute [local go_sem ↓] appY_fold in
set_option maxHeartbeats 3200000 in
set_option maxRecDepth 100000 in
theorem wordsR16_any (x : TrI) (a3 a4 a5 a6 : Option Addr) (c3 c4 c5 c6 : Nat) (w : World) (h : TnAt w x a3 a4 a5 a6) (hl : (sayR x).length ≤ 1000) :
    Calls Try.prog 22 #[tnV x.I x.O x.S a3 x.F.length c3 a4 x.N.length c4 a5 x.Y.length c5 a6 x.E.length c6] w (WordsRP x w) := by
  obtain ⟨W1, hW1, g1, s1, bx⟩ := box7_new w x.I x.O x.S a3 x.F.length c3 a4 x.N.length c4 a5 x.Y.length c5 a6 x.E.length c6
  have HW1 : Hid (W1 = _) := hW1
  have G1 : Hid (w.grownBy W1 none) := g1
  have HT : Hid (TnAt W1 x a3 a4 a5 a6) := h.grown g1
  have HX : Hid (∀ W, W1.grownBy W none → Box7 W w.heap.size x.I x.O x.S a3 x.F.length c3 a4 x.N.length c4 a5 x.Y.length c5 a6 x.E.length c6) := fun W hW => bx.grown hW
  have m5 := h.m5
  unfold maxLen at m5
  obtain ⟨Po, hPo⟩ : ∃ P, P = WordsRP x w := ⟨_, rfl⟩
  have HP : Hid (∀ a c ps W, wordsT ps = sayR x → OwnR W1 W a c ps → Po (.returned (.slice a ps.length c)) W) := fun a c ps W h0 h1 => by
    rw [hPo]; exact ⟨a, c, by rw [← h0, wordsT_len], h0 ▸ h1.rows, grown_trans G1.out h1.gr, fun y hy => Nat.le_trans G1.out.size (h1.new y hy)⟩
  have x3 := bx.b3
  have x6 := bx.b6
  rw [hW1] at x3 x6
  -- the first word, the last ones
  obtain ⟨W2, hW2⟩ : ∃ W2, W2 = W1.alloc (.cells #[.slice a3 x.F.length c3] 22) := ⟨_, rfl⟩
  have g2 : W1.grownBy W2 none := by rw [hW2]; exact grown_alloc _ _
  have hf : TripAt W2 (some ⟨w.heap.size + 1, 0, none⟩) [(a3, c3, x.F)] := .inr ⟨w.heap.size + 1, 0, rfl, fun i hi => by
    have e : i = 0 := by simpa using hi
    subst e
    have hb := heap_alloc_new W1 (.cells #[.slice a3 x.F.length c3] 22)
    rw [← hW2, s1] at hb
    rw [cell_of_row _ _ 0 _ _ (0, 0) hb]; rfl⟩
  obtain ⟨aA, cA, WA, hrA, oA⟩ := (OwnR.nil g2).put (d := 1) hf (fun p hp => by rw [List.mem_singleton.1 hp]; exact ⟨HT.out.first, HT.out.m3⟩) (by simp)
  obtain ⟨es, hes, tes, les⟩ := rows_trip HT.out.last
  have hle : es.length = x.E.length := by rw [← hes, wordsT_len]
  have hlr : x.E.length + 1 ≤ (sayR x).length := by simp [sayR]
  have tesA : TripAt WA a6 es := by
    rcases tes with h | ⟨b, off, h1, h2⟩
    · exact .inl h
    · exact .inr ⟨b, off, h1, fun i hi => oA.gr.cell (h2 i hi) (by simp)⟩
  obtain ⟨aB, cB, WB, hrB, oB⟩ := oA.put (d := c6) tesA les (by simp; omega)
  rw [hle] at hrB
  have y6 := (HX.out WA oA.gr).b6
  have HB : Hid (OwnR W1 WB aB cB (([] ++ [(a3, c3, x.F)]) ++ es) ∧ wordsT (([] ++ [(a3, c3, x.F)]) ++ es) = sayK x 0) := ⟨oB, by simp [sayK, wordsT, ← hes]⟩
  have HW2 : Hid (W2 = _) := hW2
  have S1 : Hid (W1.heap.size = w.heap.size + 1) := s1
  simp only [List.nil_append] at hrA hrB HB
  rw [hW2, hW1] at hrA
  obtain ⟨nB, hnB⟩ : ∃ n, ([(a3, c3, x.F)] ++ es).length = n := ⟨_, rfl⟩
  rw [hnB] at hrB
  simp only [List.length_nil, List.length_cons, Nat.zero_add] at hrA hrB
  have HnB : Hid (([(a3, c3, x.F)] ++ es).length = nB) := hnB
  rw [← hPo]
  clear hW1 g1 s1 bx h hPo hW2 g2 hf oA hes tes les hle hlr tesA oB hnB
  go_enter Try.func22, Try.ntmps22
  go_wp2_with fail
  clear hrA hrB y6 x3 x6
  go_loopw [4, 3] (fun v v3 W => ∃ k : Nat, k ≤ x.Y.length ∧ v = .int .i64 k ∧ WrSt x W1 k v3 W) (fun v _ _ => x.Y.length - (intOf v).toNat)
  case atStart => exact ⟨0, Nat.zero_le _, rfl, aB, cB, _, by rw [HnB.out], HB.out.2, HB.out.1⟩
  case round =>
    obtain ⟨k, hk, rfl, a, c, ps, rfl, hps, ho⟩ := hrel
    have HO : Hid (OwnR W1 wr a c ps) := ho
    have HS : Hid (wordsT ps = sayK x k) := hps
    have z5 := (HX.out wr ho.gr).b5
    clear ho hps HB
    by_cases hlt : k < x.Y.length
    · have ik : (k : Int) < (x.Y.length : Int) := by omega
      obtain ⟨b5, o5, rfl, hc5⟩ := HT.out.says.at hlt
      obtain ⟨r5, k5, d5, hr5, hm5⟩ := hc5 k hlt
      have e5 := HO.out.gr.cell d5 (by simp)
      obtain ⟨us, hus, tus, lus⟩ := rows_trip hr5
      have hlu : us.length = (x.Y.getD k []).length := by rw [← hus, wordsT_len]
      have tusW : TripAt wr r5 us := by
        rcases tus with h | ⟨b, off, h1, h2⟩
        · exact .inl h
        · exact .inr ⟨b, off, h1, fun i hi => HO.out.gr.cell (h2 i hi) (by simp)⟩
      have hsz : ps.length + us.length ≤ 1000 := by
        have h1 := sayK_le x (k + 1)
        rw [sayK_succ x hlt, List.length_append, ← HS.out, wordsT_len] at h1
        omega
      obtain ⟨a1, c1, W', hrun, ho'⟩ := HO.out.put (d := k5) tusW lus hsz
      rw [hlu] at hrun
      have F : Hid (WrSt x W1 (k + 1) (.slice a1 (ps ++ us).length c1) W') := ⟨a1, c1, _, rfl, by rw [sayK_succ x hlt, ← HS.out, ← hus]; simp [wordsT], ho'⟩
      generalize (ps ++ us).length = nn at *
      generalize (x.Y.getD k []).length = ny at *
      clear hc5 d5 hr5 hm5 hus tus lus hlu tusW hsz ho'
      go_wp2_with fail
      go_roundw
      case rel => exact ⟨k + 1, by omega, by go_num, F.out⟩
      case measure => simp [intOf]; omega
    · have ik : ¬ (k : Int) < (x.Y.length : Int) := by omega
      have F : Hid (Po (.returned (.slice a ps.length c)) wr) := HP.out a c ps wr (by rw [HS.out, sayK_all x hlt]) HO.out
      go_wp2_with fail
      first | exact F.out | (go_ret; exact F.out)

set_option maxHeartbeats 1600000 in
set_option maxRecDepth 100000 in
theorem longR_any (x : TrI) (a3 a4 a5 a6 : Option Addr) (c3 c4 c5 c6 : Nat) (w : World) (h : TnAt w x a3 a4 a5 a6) (hl : (sayR x).length ≤ 1000) :
    Calls Try.prog 9 #[tnV x.I x.O x.S a3 x.F.length c3 a4 x.N.length c4 a5 x.Y.length c5 a6 x.E.length c6] w (TellsB (¬ ShortW (sayR x)) w) := by
  obtain ⟨W1, hW1, g1, s1, bx⟩ := box7_new w x.I x.O x.S a3 x.F.length c3 a4 x.N.length c4 a5 x.Y.length c5 a6 x.E.length c6
  have HW1 : Hid (W1 = _) := hW1
  have G1 : Hid (w.grownBy W1 none) := g1
  have HC : Hid (Calls Try.prog 22 #[tnV x.I x.O x.S a3 x.F.length c3 a4 x.N.length c4 a5 x.Y.length c5 a6 x.E.length c6] W1 (WordsRP x W1)) := wordsR16_any _ _ _ _ _ _ _ _ _ _ (h.grown g1) hl
  have x0 := bx.b0
  have x1 := bx.b1
  have x2 := bx.b2
  have x3 := bx.b3
  have x4 := bx.b4
  have x5 := bx.b5
  have x6 := bx.b6
  rw [hW1] at x0 x1 x2 x3 x4 x5 x6
  clear hW1 g1 s1 bx h
  go_enter Try.func9, Try.ntmps9
  go_wp2_with fail
  rw [← HW1.out]
  refine HC.out.mono ?_
  rintro E w1 ⟨a, c, rfl, hr, hg, hn⟩
  have GW : Hid (w.grownBy w1 none) := grown_trans G1.out hg
  have HR : Hid (RowsAt w1 a (sayR x)) := hr
  clear x0 x1 x2 x3 x4 x5 x6 hr hg hn HC HW1 G1
  obtain ⟨R, hR⟩ : ∃ R, sayR x = R := ⟨_, rfl⟩
  have HRR : Hid (sayR x = R) := hR
  rw [hR] at HR hl
  simp only [hR]
  clear hR
  go_wp2_with fail
  go_loop [4] (fun v => ∃ k : Nat, k ≤ R.length ∧ v = .int .i64 k ∧ ∀ j, j < k → (R.getD j []).length ≤ 8) (fun v => R.length - (intOf v).toNat)
  case atStart => exact ⟨0, Nat.zero_le _, rfl, fun j hj => by omega⟩
  case round =>
    obtain ⟨k, hk, rfl, hg⟩ := hrel
    have HJ : Hid (∀ j, j < k → (R.getD j []).length ≤ 8) := hg
    clear hg
    by_cases hlt : k < R.length
    · obtain ⟨b, o, rfl, hc⟩ := HR.out.at hlt
      obtain ⟨r, kk, d, _, hm⟩ := hc k hlt
      have ik : (k : Int) < (R.length : Int) := by omega
      unfold maxLen at hm
      have hmem : R.getD k [] ∈ R := by rw [List.getD, List.getElem?_eq_getElem hlt, Option.getD_some]; exact List.getElem_mem hlt
      by_cases f : (R.getD k []).length ≤ 8
      · have d1 : ¬ (8 : Int) < ((R.getD k []).length : Int) := by omega
        have HN : Hid (∀ j, j < k + 1 → (R.getD j []).length ≤ 8) := fun j hj => by
          by_cases hjk : j = k
          · subst hjk; exact f
          · exact HJ.out j (by omega)
        clear f hmem hc
        generalize (R.getD k []).length = n at *
        go_wp2_with fail
        go_round
        case rel => exact ⟨k + 1, by omega, by go_num, HN.out⟩
        case measure => simp [intOf]; omega
      · have d1 : (8 : Int) < ((R.getD k []).length : Int) := by omega
        have HN : Hid (¬ ShortW (sayR x)) := fun hh => f (hh _ (by rw [HRR.out]; exact hmem))
        clear f hmem hc
        generalize (R.getD k []).length = n at *
        go_wp2_with fail
        go_ret
        exact tellsB true rfl ⟨fun _ => HN.out, fun _ => rfl⟩ GW.out
    · have ik : ¬ (k : Int) < (R.length : Int) := by omega
      have HN : Hid (ShortW (sayR x)) := fun u hu => by
        rw [HRR.out] at hu
        obtain ⟨j, hj, rfl⟩ := List.getElem_of_mem hu
        have := HJ.out j (by omega)
        rwa [List.getD, List.getElem?_eq_getElem hj, Option.getD_some] at this
      go_wp2_with fail
      go_ret
      exact tellsB false rfl ⟨(fun e => by cases e), fun e => absurd HN.out e⟩ GW.out

end Go.Proofs.Ytodcmlcpicabaaa
