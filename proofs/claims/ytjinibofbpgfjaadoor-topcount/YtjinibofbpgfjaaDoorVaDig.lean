/- A number in digits: the program's digits. -/
import Derived.Test.YtjinibofbpgfjaaDoorVaDec
import Derived.Test.YtjinibofbpgfjaaDoorVaWgt
import Derived.Test.YtjinibofbpgfjaaDoorShelf
import Derived.Lib.ItoaMem
import Derived.Lib.SmallJoins
namespace Go.Proofs.YtjinibofbpgfjaaDoor
open Go.Shelf Go.RowKit Go.Sort
open Go.Lib (decDigits trimLeftB itoa itoa_nonneg itoa_neg)
set_option linter.unusedVariables false
set_option linter.unusedSimpArgs false

/-- The library's table of powers of ten holds what its initialiser lays. -/
def Pow10 (w : World) : Prop := Lib.TabIs Tryd.prog w "internal/strconv.uint64pow10" .u64 Lib.pow10Tab
theorem gPow : Tryd.prog.globalNamed "internal/strconv.uint64pow10" = some 0 := by kernel_rfl
theorem Pow10.grown {w w' : World} (h : Pow10 w) (hg : w.grownBy w' none) : Pow10 w' := Joins.tab_stays gPow h (below_of_grown hg) (Nat.le_refl _)
theorem grown_growV (w : World) (os : Array Obj) : w.grownBy (grow w os) none := ⟨rfl, rfl, rfl, by simp [grow], fun k hk _ => by simp [grow, Array.getElem?_append_left hk]⟩
theorem formatInt_any (n : Nat) (hn : n < 10 ^ 9) (w : World) (hT : Pow10 w) : Calls Tryd.prog 30 #[.int .i64 (n : Int), .int .i64 10] w fun e w' => e = .returned (.string ⟨(Lib.decDigits n).toArray⟩) ∧ w.grownBy w' none :=
  (Any.strconv_FormatInt_10 Tryd.laysM173 (n : Int) (by omega) (by omega) w hT).mono fun e w' ⟨h1, k, os, h2⟩ => by
    rw [itoa_nonneg] at h1
    exact ⟨h1, by rw [h2]; exact grown_trans (grown_drewN (grown_refl _ _) _) (grown_growV _ _)⟩
theorem repeatV_any (c : Nat) (hc : c ≤ 18) (w : World) : Calls Tryd.prog 31 #[.string ⟨#[48]⟩, .int .i64 c] w fun e w' => e = .returned (.string ⟨(List.replicate c (48 : UInt8)).toArray⟩) ∧ w.grownBy w' none := by
  have e : Lib.repeatL [48] c = List.replicate c 48 := by
    induction c with
    | zero => rfl
    | succ c ih => simp only [Lib.repeatL, ih (by omega)]; rfl
  rw [← e]
  exact (Any.strings_Repeat Tryd.lays105 Tryd.Builder_Extra_105 ⟨#[48]⟩ c w (by omega) (by have : ByteArray.size ⟨#[48]⟩ = 1 := rfl; rw [this]; omega)).mono fun e w' h => ⟨h.1, grown_of_below h.2⟩
theorem trimV_any (s : ByteArray) (w : World) : Calls Tryd.prog 32 #[.string s, .string ⟨#[48]⟩] w fun e w' => e = .returned (.string ⟨(Lib.trimLeftB s.data.toList 48).toArray⟩) ∧ w' = w :=
  Any.strings_TrimLeft_one Tryd.lays161 s 48 (by decide) w
theorem str_app (a b : List UInt8) : (ByteArray.mk a.toArray ++ ByteArray.mk b.toArray) = ByteArray.mk (a ++ b).toArray := by
  apply ByteArray.ext
  simp [ByteArray.data_append]

/-- A text is answered. -/
def StrP (l : List UInt8) (w : World) (e : Ending) (w' : World) : Prop := e = .returned (.string ⟨l.toArray⟩) ∧ w.grownBy w' none
theorem str_three (c : Nat) (b d : List UInt8) : (({ data := Array.replicate c 48 } : ByteArray) ++ { data := b.toArray } ++ { data := d.toArray }) = ⟨((List.replicate c 48 ++ b) ++ d).toArray⟩ := by
  apply ByteArray.ext
  simp [ByteArray.data_append]

set_option maxHeartbeats 3200000 in
set_option maxRecDepth 100000 in
theorem digitsP_any (n : Nat) (hn : n < 10 ^ 117) (w : World) (hT : Pow10 w) :
    Calls Tryd.prog 18 #[nmV (ptF (n : Int))] w (StrP (decDigits n) w) := by
  obtain ⟨W1, hW1, g1, s1, b1⟩ := boxN_new w (ptF (n : Int))
  have HW1 : Hid (W1 = w.alloc (nmO (ptF (n : Int)))) := hW1
  have G1 : Hid (w.grownBy W1 none) := g1
  have HB : Hid (BoxN W1 w.heap.size (ptF (n : Int))) := b1
  have HP : Hid (∀ k, ptF (n : Int) k = (ptN n k : Int)) := fun k => pt_nat n k
  obtain ⟨d0, d1, d2, d3, d4, d5, d6, d7, d8, d9, d10, d11, d12⟩ := b1.get
  rw [hW1] at d0 d1 d2 d3 d4 d5 d6 d7 d8 d9 d10 d11 d12
  have hl : ¬ ptF (n : Int) 12 < 0 := by rw [pt_nat]; omega
  have HF : Hid (∀ k W, w.grownBy W none → k < 13 → Calls Tryd.prog 30 #[.int .i64 (ptF (n : Int) k), .int .i64 10] W fun e w' => e = .returned (.string ⟨(Lib.decDigits (ptN n k)).toArray⟩) ∧ W.grownBy w' none) := fun k W hW hk => by rw [pt_nat]; exact formatInt_any _ (ptN_lt hn k) W (hT.grown hW)
  have HR : Hid (∀ k W, k < 13 → (decDigits (ptN n k)).length ≤ 9 ∧ Calls Tryd.prog 31 #[.string ⟨#[48]⟩, .int .i64 (9 - ((decDigits (ptN n k)).length : Int))] W fun e w' => e = .returned (.string ⟨(List.replicate (9 - (decDigits (ptN n k)).length) (48 : UInt8)).toArray⟩) ∧ W.grownBy w' none) := fun k W hk => by
    have h1 := (part_pad (ptN_lt hn k)).1
    refine ⟨h1, ?_⟩
    have := repeatV_any (9 - (decDigits (ptN n k)).length) (by omega) W
    rw [Int.ofNat_sub h1] at this
    exact this
  have HPd : Hid (∀ k, k < 13 → (List.replicate (9 - (decDigits (ptN n k)).length) 48 ++ decDigits (ptN n k)) ++ pad (9 * k) n = pad (9 * (k + 1)) n) := fun k hk => by rw [← (part_pad (ptN_lt hn k)).2]; exact pad_part hk
  have HTr : Hid (trimLeftB (pad 117 n) 48 = if n = 0 then [] else decDigits n) := trim_pad hn
  obtain ⟨Po, hPo⟩ : ∃ P, P = StrP (decDigits n) w := ⟨_, rfl⟩
  have HPo : Hid (Po = StrP (decDigits n) w) := hPo
  rw [← hPo]
  clear hW1 g1 s1 b1 hT hPo
  go_enter Tryd.func18, Tryd.ntmps18
  go_wp2_with fail
  rw [← HW1.out]
  clear d0 d1 d2 d3 d4 d5 d6 d7 d8 d9 d10 d11 d12
  go_loopw [17, 3] (fun p q W => ∃ k : Nat, p = .int .i64 k ∧ k ≤ 13 ∧ q = .string ⟨(pad (9 * k) n).toArray⟩ ∧ w.grownBy W none) (fun p _ _ => 13 - (intOf p).toNat)
  case atStart => exact ⟨0, rfl, by omega, rfl, G1.out⟩
  case round =>
    obtain ⟨wk, hwk⟩ : ∃ W, W = wr := ⟨_, rfl⟩
    subst hwk
    obtain ⟨k, rfl, hk, rfl, hg⟩ := hrel
    have HK : Hid (w.grownBy wk none) := hg
    clear hg
    by_cases hlk : k < 13
    · have ko : (k : Int) < 13 := by omega
      have hidx := fun W => index_nm W (ptF (n : Int)) hlk
      obtain ⟨x, hx⟩ : ∃ x, ptF (n : Int) k = x := ⟨_, rfl⟩
      have HF1 := HF.out k wk HK.out hlk
      have HR1 := fun W => HR.out k W hlk
      have hP1 := HPd.out k hlk
      obtain ⟨dd, hdd⟩ : ∃ d, decDigits (ptN n k) = d := ⟨_, rfl⟩
      obtain ⟨pd, hpd⟩ : ∃ d, pad (9 * k) n = d := ⟨_, rfl⟩
      rw [hx, hdd] at HF1
      rw [hx] at hidx
      rw [hdd] at HR1 hP1
      rw [hpd] at hP1
      have hpl : pd.length ≤ 117 := by rw [← hpd, pad_len]; omega
      rw [hpd]
      have HF2 : Hid (Calls Tryd.prog 30 #[.int .i64 x, .int .i64 10] wk fun e w' => e = .returned (.string ⟨dd.toArray⟩) ∧ wk.grownBy w' none) := HF1
      have HR2 : Hid (∀ W, dd.length ≤ 9 ∧ Calls Tryd.prog 31 #[.string ⟨#[48]⟩, .int .i64 (9 - (dd.length : Int))] W fun e w' => e = .returned (.string ⟨(List.replicate (9 - dd.length) (48 : UInt8)).toArray⟩) ∧ W.grownBy w' none) := HR1
      have hdl := (HR1 wk).1
      have HP2 : Hid ((List.replicate (9 - dd.length) 48 ++ dd) ++ pd = pad (9 * (k + 1)) n) := hP1
      have hsz : (ByteArray.mk dd.toArray).size = dd.length := by simp [ByteArray.size]
      clear HF1 HR1 hP1 hx hdd hpd
      go_wp2_with fail
      refine HF2.out.mono ?_
      rintro E w2 ⟨rfl, hg2⟩
      have G2 : Hid (w.grownBy w2 none) := grown_trans HK.out hg2
      clear hg2
      go_wp2_with fail
      refine (HR2.out w2).2.mono ?_
      rintro E w3 ⟨rfl, hg3⟩
      have G3 : Hid (w.grownBy w3 none) := grown_trans G2.out hg3
      clear hg3
      go_wp2_with fail
      go_roundw
      case rel => exact ⟨k + 1, by go_num, by omega, by rw [← HP2.out]; exact congrArg Value.string (str_three _ dd pd), G3.out⟩
      case measure => simp [intOf]; omega
    · have ko : ¬ (k : Int) < 13 := by omega
      have ek : k = 13 := by omega
      subst ek
      have HT2 : Hid (∀ W, Calls Tryd.prog 32 #[.string ⟨(pad (9 * 13) n).toArray⟩, .string ⟨#[48]⟩] W fun e w' => e = .returned (.string ⟨(if n = 0 then [] else decDigits n).toArray⟩) ∧ w' = W) := fun W => by
        have h := trimV_any ⟨(pad (9 * 13) n).toArray⟩ W
        have e : (ByteArray.mk (pad (9 * 13) n).toArray).data.toList = pad 117 n := rfl
        rw [e, HTr.out] at h
        exact h
      by_cases h0 : n = 0
      · rw [if_pos h0] at HT2
        have F : Hid (Po (.returned (.string ⟨#[48]⟩)) wk) := by
          show Po _ _
          rw [HPo.out, h0, dec_zero]
          exact ⟨rfl, HK.out⟩
        clear h0
        go_wp2_with fail
        refine (HT2.out wk).mono ?_
        rintro E w2 ⟨rfl, rfl⟩
        go_wp2_with fail
        first | exact F.out | (go_ret; exact F.out)
      · rw [if_neg h0] at HT2
        obtain ⟨c, r, hcr, _⟩ := dec_head n
        have F : Hid (Po (.returned (.string ⟨(c :: r).toArray⟩)) wk) := by
          show Po _ _
          rw [HPo.out, hcr]
          exact ⟨rfl, HK.out⟩
        rw [hcr] at HT2
        clear h0 hcr
        go_wp2_with fail
        refine (HT2.out wk).mono ?_
        rintro E w2 ⟨rfl, rfl⟩
        go_wp2_with fail
        first | exact F.out | (go_ret; exact F.out)

theorem bbN13 : bbN 13 = ((10 ^ 117 : Nat) : Int) := bbN_nat 13
set_option maxHeartbeats 3200000 in
set_option maxRecDepth 100000 in
theorem digits_any (V : Int) (hV : (V.natAbs : Int) < bbN 13) (w : World) (hT : Pow10 w) :
    Calls Tryd.prog 18 #[nmV (ptF V)] w (StrP (itoa V) w) := by
  have hb := bbN13
  rcases Int.lt_or_le V 0 with h | h
  · obtain ⟨W1, hW1, g1, s1, b1⟩ := boxN_new w (ptF V)
    obtain ⟨W2, hW2, g2, s2, b2⟩ := boxN_new W1 (ptF V)
    obtain ⟨W3, hW3⟩ : ∃ W, W = W2.alloc (.cells #[.int .i64 (-1)] 3) := ⟨_, rfl⟩
    have g3 : W2.grownBy W3 none := by rw [hW3]; exact grown_alloc _ _
    have G3 : Hid (w.grownBy W3 none) := grown_trans g1 (grown_trans g2 g3)
    have HW3 : Hid (W3 = ((w.alloc (nmO (ptF V))).alloc (nmO (ptF V))).alloc (.cells #[.int .i64 (-1)] 3)) := by show _ = _; rw [hW3, hW2, hW1]
    have e1 : W1.heap.size = w.heap.size + 1 := s1
    have e2 : W2.heap.size = w.heap.size + 1 + 1 := by omega
    have hn : NumsAt W3 (some ⟨w.heap.size + 1, 0, none⟩) [V] := .inr ⟨w.heap.size + 1, 0, rfl, fun i hi k hk => by
      have : i = 0 := by have : i < 1 := hi; omega
      subst this
      have h1 := (b2.kept g3).cell hk
      rw [e1] at h1
      rw [show 0 + 0 * 13 + k = k by omega]
      exact h1⟩
    have hi : Ints W3 (some ⟨w.heap.size + 1 + 1, 0, none⟩) [-1] := .inr ⟨w.heap.size + 1 + 1, 0, rfl, fun i hi => by
      have : i = 0 := by have : i < 1 := hi; omega
      subst this
      have hb := heap_alloc_new W2 (.cells #[.int .i64 (-1)] 3)
      rw [← hW3, e2] at hb
      rw [cell_of_row _ _ _ _ _ (0, 0) hb]
      rfl⟩
    have hd : dotW [V] [-1] = -V := by show V * -1 + 0 = -V; omega
    have HTo : Hid (Calls Tryd.prog 28 #[.slice (some ⟨w.heap.size + 1, 0, none⟩) 1 1, .slice (some ⟨w.heap.size + 1 + 1, 0, none⟩) 1 1] W3 (NumP (-V) W3)) := by
      have h1 := total_any [V] [-1] (some ⟨w.heap.size + 1, 0, none⟩) (some ⟨w.heap.size + 1 + 1, 0, none⟩) 1 1 1 W3 hn hi rfl rfl (by omega) (fun v hv => by rw [List.mem_singleton.1 hv]; unfold RoomN; omega) (fun x hx => by rw [List.mem_singleton.1 hx]; omega)
      rw [hd] at h1
      exact h1
    obtain ⟨m, hm⟩ : ∃ m : Nat, -V = (m : Int) := ⟨V.natAbs, by omega⟩
    rw [hm] at HTo
    have HM : Hid (Lib.nDigits m ≤ 117) := (pad_eq 116 m (by omega)).1
    have HDi : Hid (∀ W, w.grownBy W none → Calls Tryd.prog 18 #[nmV (ptF (m : Int))] W (StrP (decDigits m) W)) := fun W hW => digitsP_any m (by omega) W (hT.grown hW)
    have hl := (pt_last V).2 h
    obtain ⟨d0, d1, d2, d3, d4, d5, d6, d7, d8, d9, d10, d11, d12⟩ := b1.get
    rw [hW1] at d0 d1 d2 d3 d4 d5 d6 d7 d8 d9 d10 d11 d12
    obtain ⟨Po, hPo⟩ : ∃ P, P = StrP (itoa V) w := ⟨_, rfl⟩
    have HPo : Hid (∀ W, w.grownBy W none → Po (.returned (.string ⟨(45 :: decDigits m).toArray⟩)) W) := fun W hW => by
      rw [hPo]
      have e : V = -(m : Int) := by omega
      rw [e, itoa_neg m (by omega)]
      exact ⟨rfl, hW⟩
    rw [← hPo]
    clear hW1 hW2 hW3 g1 g2 g3 s1 s2 b1 b2 e1 e2 hn hi hd hPo hm
    go_enter Tryd.func18, Tryd.ntmps18
    go_wp2_with fail
    rw [← HW3.out]
    clear d0 d1 d2 d3 d4 d5 d6 d7 d8 d9 d10 d11 d12
    refine HTo.out.mono ?_
    rintro E w4 ⟨rfl, hg4⟩
    have G4 : Hid (w.grownBy w4 none) := grown_trans G3.out hg4
    clear hg4 HTo
    go_wp2_with fail
    refine (HDi.out w4 G4.out).mono ?_
    rintro E w5 ⟨rfl, hg5⟩
    have F : Hid (Po (.returned (.string ⟨(45 :: decDigits m).toArray⟩)) w5) := HPo.out w5 (grown_trans G4.out hg5)
    have ES : Hid ((({ data := #[45] } : ByteArray) ++ { data := (decDigits m).toArray }) = ⟨(45 :: decDigits m).toArray⟩) := by
      apply ByteArray.ext
      simp [ByteArray.data_append]
    obtain ⟨dd, hdd⟩ : ∃ d, decDigits m = d := ⟨_, rfl⟩
    have hdl : dd.length ≤ 117 := by rw [← hdd, Lib.decDigits_length]; exact HM.out
    have hsz : (ByteArray.mk dd.toArray).size = dd.length := by simp [ByteArray.size]
    rw [hdd] at F ES ⊢
    clear hg5 hdd hb hV
    go_wp2_with fail
    first | (rw [ES.out]; exact F.out) | (go_ret; rw [ES.out]; exact F.out)
  · obtain ⟨m, rfl⟩ : ∃ m : Nat, V = (m : Int) := ⟨V.toNat, by omega⟩
    rw [itoa_nonneg]
    have h2 : (m : Int) < ((10 ^ 117 : Nat) : Int) := by rw [← hb]; exact hV
    exact digitsP_any m (Int.ofNat_lt.1 h2) w hT
end Go.Proofs.YtjinibofbpgfjaaDoor
