/- A whole number in digits: the reference's Text. -/
import Derived.Test.YtjinibofbpgfjaaDoorVaTxtM
import Derived.Test.YtjinibofbpgfjaaDoorVaDig
import Derived.Test.YtjinibofbpgfjaaDoorNuBase
namespace Go.Proofs.YtjinibofbpgfjaaDoor
open Go.Shelf Go.RowKit Go.Sort
open Go.Lib (decDigits trimLeftB itoa itoa_nonneg itoa_neg)
set_option linter.unusedVariables false
set_option linter.unusedSimpArgs false

theorem itoa_wv {b : Bool} {l : List Int} (h : Nm b l) (hl : l ≠ []) : itoa (wvN b l) = if b then 45 :: decDigits (natN l) else decDigits (natN l) := by
  have hw : WfN l := h.1
  have hlow := h.low hl
  have hp := pwN_pos (l.length - 1)
  have hc := natN_cast hw
  cases b with
  | true =>
    show itoa (-valN l) = _
    rw [← hc, itoa_neg _ (by omega)]
    rfl
  | false =>
    show itoa (valN l) = _
    rw [← hc, itoa_nonneg]
    rfl

theorem str_one (c : UInt8) (u : List UInt8) : (({ data := #[c] } : ByteArray) ++ { data := u.toArray }) = ⟨(c :: u).toArray⟩ := by
  apply ByteArray.ext
  simp [ByteArray.data_append]
theorem conv_one (W : World) (m : Nat) (hm : m < 100000) : (convert 53 9 (.slice (some ⟨W.heap.size, 0, none⟩) 1 1)).run Tryd.prog (W.alloc (.cells #[.int .u8 (48 + (m : Int) % 10)] 5)) = .ok (.string ⟨#[UInt8.ofNat (48 + m % 10)]⟩) (W.alloc (.cells #[.int .u8 (48 + (m : Int) % 10)] 5)) := by
  have hb := heap_alloc_new W (.cells #[.int .u8 (48 + (m : Int) % 10)] 5)
  have h := run_convert_bytes_back (P := Tryd.prog) (W.alloc (.cells #[.int .u8 (48 + (m : Int) % 10)] 5)) 53 9 5 ⟨W.heap.size, 0, none⟩ 1 [UInt8.ofNat (48 + m % 10)] Tryd.underlying53 Tryd.underlying5 Tryd.underlying9 (fun j hj => by
    have : j = 0 := by have : j < 1 := hj; omega
    subst this
    rw [add_off, Nat.zero_add, cell_of_row _ _ 0 _ _ (0, 0) hb]
    have e : (UInt8.ofNat (48 + m % 10)).toNat = 48 + m % 10 := by rw [UInt8.toNat_ofNat']; omega
    show some (Value.int .u8 (48 + (m : Int) % 10)) = some (Value.int .u8 ((UInt8.ofNat (48 + m % 10)).toNat : Int))
    rw [e]
    push_cast
    rfl)
  exact h

set_option maxHeartbeats 3200000 in
set_option maxRecDepth 100000 in
theorem text_any (b : Bool) (a : Option Addr) (n c : Nat) (z : Int) (w : World) (h : WhAt w b a n c z) (hn : n ≤ 401) :
    Calls Tryd.prog 10 #[whV b a n c] w (StrP (itoa z) w) := by
  obtain ⟨l, hl, hnc, hi, hN, hz⟩ := h
  obtain ⟨W1, hW1⟩ : ∃ W, W = w.alloc (whO b a n c) := ⟨_, rfl⟩
  have g1 : w.grownBy W1 none := by rw [hW1]; exact grown_alloc _ _
  have HW1 : Hid (W1 = w.alloc (whO b a n c)) := hW1
  have G1 : Hid (w.grownBy W1 none) := g1
  have hb := heap_alloc_new w (whO b a n c)
  rw [← hW1] at hb
  have HX : Hid (∀ W, W1.grownBy W none → W.cell? ⟨w.heap.size, 0, none⟩ = some (.bool b) ∧ W.cell? ⟨w.heap.size, 1, none⟩ = some (.slice a n c)) := fun W hW => by
    have h0 : W1.cell? ⟨w.heap.size, 0, none⟩ = some (.bool b) := by rw [cell_of_row _ _ 0 _ _ (0, 0) hb]; rfl
    have h1 : W1.cell? ⟨w.heap.size, 1, none⟩ = some (.slice a n c) := by rw [cell_of_row _ _ 1 _ _ (0, 0) hb]; rfl
    exact ⟨hW.cell h0 (by simp), hW.cell h1 (by simp)⟩
  have HI : Hid (∀ W, W1.grownBy W none → Ints W a l) := fun W hW => hi.grown (grown_trans g1 hW)
  have HN : Hid (Nm b l ∧ l.length = n ∧ WfN l) := ⟨hN, hl, hN.1⟩
  obtain ⟨Po, hPo⟩ : ∃ P, P = StrP (itoa z) w := ⟨_, rfl⟩
  have HPo : Hid (Po = StrP (itoa z) w ∧ z = wvN b l) := ⟨hPo, hz⟩
  rw [← hPo]
  have x1 := (HX.out W1 (grown_refl _ _)).2
  rw [hW1] at x1
  clear hW1 g1 hb hi hN hz hPo
  by_cases h0 : n = 0
  · subst h0
    have F : Hid (Po (.returned (.string ⟨#[48]⟩)) W1) := by
      show Po _ _
      have e : l = [] := List.eq_nil_of_length_eq_zero HN.out.2.1
      have ez : z = 0 := by rw [HPo.out.2, e]; cases b <;> rfl
      rw [HPo.out.1, ez]
      refine ⟨?_, G1.out⟩
      have : itoa 0 = [48] := by show itoa ((0 : Nat) : Int) = _; rw [itoa_nonneg, dec_zero]
      rw [this]
    go_enter Tryd.func10, Tryd.ntmps10
    go_wp2_with fail
    rw [← HW1.out]
    first | exact F.out | (go_ret; exact F.out)
  · have h1 : ((n : Int) == 0) = false := by simp; omega
    have HL0 : Hid (l ≠ []) := fun e => by have := HN.out.2.1; rw [e] at this; simp at this; omega
    have HTop : Hid (figN l (n - 1) ≠ 0) := fun e => by
      have hlow := HN.out.1.low HL0.out
      have h1 := natN_drop HN.out.2.2 (n - 1) (by have := HN.out.2.1; omega)
      rw [natN_head HN.out.2.2 (by have := HN.out.2.1; omega), e] at h1
      have e2 : l.drop (n - 1 + 1) = [] := List.drop_of_length_le (by have := HN.out.2.1; omega)
      rw [e2] at h1
      have hc := natN_cast HN.out.2.2
      have ep : pwN (n - 1) = ((10 ^ (4 * (n - 1)) : Nat) : Int) := by unfold pwN; rw [Nat.pow_mul, Int.natCast_pow]; rfl
      rw [HN.out.2.1, ep, ← hc] at hlow
      have h3 : 10 ^ (4 * (n - 1)) ≤ natN l := Int.ofNat_le.1 hlow
      have h4 := Nat.div_pos h3 (Nat.pow_pos (n := 4 * (n - 1)) (show 0 < 10 by decide))
      have h5 : natN ([] : List Int) = 0 := rfl
      omega
    go_enter Tryd.func10, Tryd.ntmps10
    go_wp2_with fail
    rw [← HW1.out]
    clear x1
    go_loopw [4, 3] (fun p q W => ∃ (i : Nat) (s : List UInt8), p = .int .i64 i ∧ q = .string ⟨s.toArray⟩ ∧ i ≤ n ∧ s.length ≤ 4 * i ∧ (i < n → s = pad (4 * i) (natN l)) ∧ (i = n → s = decDigits (natN l)) ∧ W1.grownBy W none) (fun p _ _ => n - (intOf p).toNat)
    case atStart => exact ⟨0, [], rfl, rfl, Nat.zero_le _, Nat.le_refl _, fun _ => rfl, fun e => absurd e.symm h0, grown_refl _ _⟩
    case round =>
      obtain ⟨wi, hwi⟩ : ∃ W, W = wr := ⟨_, rfl⟩
      subst hwi
      obtain ⟨i, s, rfl, rfl, hi, hs1, hs2, hs3, hg⟩ := hrel
      have HO : Hid ((i < n → s = pad (4 * i) (natN l)) ∧ (i = n → s = decDigits (natN l)) ∧ W1.grownBy wi none ∧ s.length ≤ 4 * i) := ⟨hs2, hs3, hg, hs1⟩
      clear hs2 hs3 hg
      by_cases hlt : i < n
      · have io : (i : Int) < (n : Int) := by omega
        have hil : i < l.length := by rw [HN.out.2.1]; exact hlt
        obtain ⟨b5, o5, rfl, hc⟩ := (HI.out wi HO.out.2.2.1).at hil
        have q1 := hc i hil
        have hf := figN_cast HN.out.2.2 i
        rw [← hf.1] at q1
        obtain ⟨d, hd⟩ : ∃ d, figN l i = d := ⟨_, rfl⟩
        rw [hd] at q1 hf
        have x1 := (HX.out wi HO.out.2.2.1).2
        have hd9 := hf.2
        have HD : Hid (figN l i = d ∧ s = pad (4 * i) (natN l)) := ⟨hd, HO.out.1 hlt⟩
        clear hc hf hd
        go_wp2_with fail
        clear q1 x1
        go_loopw [6, 5, 3] (fun p r q W => ∃ (k j : Nat) (u : List UInt8), p = .int .i64 k ∧ r = .int .i64 ((d / 10 ^ k : Nat) : Int) ∧ q = .string ⟨u.toArray⟩ ∧ k ≤ 4 ∧ u = pad j d ++ s ∧ FigSt d k j (decide (i + 1 = n)) ∧ W1.grownBy W none) (fun p _ _ _ => 4 - (intOf p).toNat)
        case atStart => exact ⟨0, 0, s, rfl, by simp, rfl, by omega, rfl, FigSt.start _ _, HO.out.2.2.1⟩
        case round =>
          obtain ⟨wk, hwk⟩ : ∃ W, W = wr := ⟨_, rfl⟩
          subst hwk
          obtain ⟨k, j, u, rfl, rfl, rfl, hk, hu, hst, hg⟩ := hrel
          have HK : Hid (u = pad j d ++ s ∧ FigSt d k j (decide (i + 1 = n)) ∧ W1.grownBy wk none) := ⟨hu, hst, hg⟩
          have hul : u.length ≤ 2000 := by rw [hu, List.length_append, pad_len]; have := hst.le; omega
          clear hu hst hg
          by_cases hlk : k < 4
          · have ko : (k : Int) < 4 := by omega
            have x1 := (HX.out wk HK.out.2.2).2
            obtain ⟨m, hm⟩ : ∃ m, d / 10 ^ k = m := ⟨_, rfl⟩
            have hm2 : d / 10 ^ (k + 1) = m / 10 := by rw [← hm, Nat.pow_succ, ← Nat.div_div_eq_div_mul]
            have hm9 : m ≤ d := by rw [← hm]; exact Nat.div_le_self _ _
            have HM : Hid (d / 10 ^ k = m ∧ d / 10 ^ (k + 1) = m / 10) := ⟨hm, hm2⟩
            rw [hm]
            clear hm hm2
            have hcv : IntKind.u8.wrap (48 + ((m : Int) % 10)) = 48 + ((m : Int) % 10) := by rw [IntKind.wrap_u8]; omega
            by_cases hg : m = 0
            · subst hg
              by_cases hi1 : i + 1 = n
              · have i2 : ¬ (i : Int) < (n : Int) - 1 := by omega
                have HS2 : Hid (FigSt d (k + 1) j (decide (i + 1 = n))) := HK.out.2.1.stay (by simp [hi1]) HM.out.1
                go_wp2_with fail
                go_roundw
                case rel => exact ⟨k + 1, j, u, by go_num, by rw [HM.out.2]; rfl, rfl, by omega, HK.out.1, HS2.out, HK.out.2.2⟩
                case measure => simp [intOf]; omega
              · have i2 : (i : Int) < (n : Int) - 1 := by omega
                obtain ⟨hjk, hst9⟩ := HK.out.2.1.go (.inl (by simp; omega))
                have HS2 : Hid (FigSt d (k + 1) (k + 1) (decide (i + 1 = n)) ∧ UInt8.ofNat (48 + 0 % 10) :: u = pad (k + 1) d ++ s) := ⟨hst9, by rw [HK.out.1, hjk, ← pad_one d k, HM.out.1]; rfl⟩
                have G9 : Hid (W1.grownBy (wk.alloc (.cells #[.int .u8 (48)] 5)) none) := grown_trans HK.out.2.2 (grown_alloc _ _)
                have hcv2 := conv_one wk 0 (by omega)
                have e48 : (48 : Int) + ((0 : Nat) : Int) % 10 = 48 := rfl
                rw [e48] at hcv2
                have hsz : (ByteArray.mk #[UInt8.ofNat (48 + 0 % 10)]).size = 1 := rfl
                have hsu : (ByteArray.mk u.toArray).size = u.length := by simp [ByteArray.size]
                obtain ⟨c0, hc0⟩ : ∃ c0, UInt8.ofNat (48 + 0 % 10) = c0 := ⟨_, rfl⟩
                rw [hc0] at HS2 hcv2 hsz
                clear hjk hst9 hc0
                go_wp2_with fail
                go_roundw
                case rel => exact ⟨k + 1, k + 1, c0 :: u, by go_num, by rw [HM.out.2]; simp, congrArg Value.string (str_one c0 u), by omega, HS2.out.2, HS2.out.1, G9.out⟩
                case measure => simp [intOf]; omega
            · have g1 : (0 : Int) < (m : Int) := by omega
              obtain ⟨hjk, hst9⟩ := HK.out.2.1.go (.inr (by rw [HM.out.1]; omega))
              have HS2 : Hid (FigSt d (k + 1) (k + 1) (decide (i + 1 = n)) ∧ UInt8.ofNat (48 + m % 10) :: u = pad (k + 1) d ++ s) := ⟨hst9, by rw [HK.out.1, hjk, ← pad_one d k, HM.out.1]; rfl⟩
              have G9 : Hid (W1.grownBy (wk.alloc (.cells #[.int .u8 (48 + (m : Int) % 10)] 5)) none) := grown_trans HK.out.2.2 (grown_alloc _ _)
              have hcv2 := conv_one wk m (by omega)
              have hsz : (ByteArray.mk #[UInt8.ofNat (48 + m % 10)]).size = 1 := rfl
              have hsu : (ByteArray.mk u.toArray).size = u.length := by simp [ByteArray.size]
              obtain ⟨c0, hc0⟩ : ∃ c0, UInt8.ofNat (48 + m % 10) = c0 := ⟨_, rfl⟩
              rw [hc0] at HS2 hcv2 hsz
              clear hjk hst9 hc0
              go_wp2_with fail
              go_roundw
              case rel => exact ⟨k + 1, k + 1, c0 :: u, by go_num, by rw [HM.out.2]; simp, congrArg Value.string (str_one c0 u), by omega, HS2.out.2, HS2.out.1, G9.out⟩
              case measure => simp [intOf]; omega
          · have ko : ¬ (k : Int) < 4 := by omega
            have ek : k = 4 := by omega
            subst ek
            have x1 := (HX.out wk HK.out.2.2).2
            have H2 : Hid ((i + 1 < n → u = pad (4 * (i + 1)) (natN l)) ∧ (i + 1 = n → u = decDigits (natN l))) := by
              refine ⟨fun h => ?_, fun h => ?_⟩
              · have e4 : j = 4 := HK.out.2.1.all (by simp; omega)
                rw [HK.out.1, e4, HD.out.2, ← HD.out.1]
                exact fig_pad HN.out.2.2 hil
              · have hst := HK.out.2.1
                have ed : decide (i + 1 = n) = true := by simpa using h
                rw [ed] at hst
                have hd0 : d ≠ 0 := by
                  rw [← HD.out.1]
                  have ei : i = n - 1 := by omega
                  rw [ei]
                  exact HTop.out
                rw [HK.out.1, hst.done hd9 hd0, HD.out.2, ← HD.out.1]
                exact last_digits HN.out.2.2 (by rw [HN.out.2.1]; exact h) (by rw [HD.out.1]; exact hd0)
            have hu4 : u.length ≤ 4 * (i + 1) := by rw [HK.out.1, List.length_append, pad_len]; have := HK.out.2.1.le; have := HO.out.2.2.2; omega
            go_wp2_with fail
            go_roundw
            case rel => exact ⟨i + 1, u, by go_num, rfl, by omega, hu4, H2.out.1, H2.out.2, HK.out.2.2⟩
            case measure => simp [intOf]; omega
      · have io : ¬ (i : Int) < (n : Int) := by omega
        have ei : i = n := by omega
        have es := HO.out.2.1 ei
        have x1 := (HX.out wi HO.out.2.2.1).2
        have x0 := (HX.out wi HO.out.2.2.1).1
        have HI2 := itoa_wv HN.out.1 HL0.out
        rw [← HPo.out.2] at HI2
        have hsl := HO.out.2.2.2
        have G9 : Hid (w.grownBy wi none) := grown_trans G1.out HO.out.2.2.1
        have HES : Hid (s = decDigits (natN l)) := es
        clear es
        cases b with
        | false =>
          have F : Hid (Po (.returned (.string ⟨s.toArray⟩)) wi) := by
            show Po _ _
            rw [HPo.out.1, HI2, HES.out]
            exact ⟨rfl, G9.out⟩
          go_wp2_with fail
          first | exact F.out | (go_ret; exact F.out)
        | true =>
          have F : Hid (Po (.returned (.string ⟨(45 :: s).toArray⟩)) wi) := by
            show Po _ _
            rw [HPo.out.1, HI2, HES.out]
            exact ⟨rfl, G9.out⟩
          have ES : Hid ((({ data := #[45] } : ByteArray) ++ { data := s.toArray }) = ⟨(45 :: s).toArray⟩) := str_one 45 s
          have hsz : (ByteArray.mk s.toArray).size = s.length := by simp [ByteArray.size]
          have hsl2 : s.length ≤ 2000 := by omega
          go_wp2_with fail
          first | (rw [ES.out]; exact F.out) | (go_ret; rw [ES.out]; exact F.out)
end Go.Proofs.YtjinibofbpgfjaaDoor
