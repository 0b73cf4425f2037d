/- Where words of a part can end, as the reference finds it: stars; and any part. -/
/- Whether a word is one of a text's, by the reference; and what that has to do with what the text tells. -/
import Derived.Test.YticmfgclkepgoaaERow
import Derived.Test.YticmfgclkepgoaaRdr
import Derived.Test.YticmfgclkepgoaaLOfs
namespace Go.Proofs.Yticmfgclkepgoaa
open Go.RowKit
set_option linter.unusedVariables false

/-- How many of the first n are false. -/
def cntB (h : Nat → Bool) : Nat → Nat
  | 0 => 0
  | n + 1 => cntB h n + (if h n = true then 0 else 1)

theorem cntB_mono {h h' : Nat → Bool} : ∀ n, (∀ i, i < n → h i = true → h' i = true) → cntB h' n ≤ cntB h n
  | 0, _ => Nat.le_refl _
  | n + 1, hi => by
    have h1 := cntB_mono n fun i hn => hi i (by omega)
    have h2 := hi n (by omega)
    simp only [cntB]
    by_cases e : h n = true
    · rw [if_pos e, if_pos (h2 e)]; omega
    · rw [if_neg e]; split <;> omega

theorem cntB_lt {h h' : Nat → Bool} : ∀ n, (∀ i, i < n → h i = true → h' i = true) → (∃ j, j < n ∧ h' j = true ∧ h j = false) → cntB h' n < cntB h n
  | 0, _, ⟨j, hj, _⟩ => by omega
  | n + 1, hi, ⟨j, hj, h1, h2⟩ => by
    have hm := cntB_mono n fun i hn => hi i (by omega)
    simp only [cntB]
    by_cases e : j = n
    · subst e
      rw [if_pos h1, if_neg (by rw [h2]; decide)]
      omega
    · have := cntB_lt n (fun i hn => hi i (by omega)) ⟨j, by omega, h1, h2⟩
      have h3 := hi n (by omega)
      by_cases e : h n = true
      · rw [if_pos e, if_pos (h3 e)]; omega
      · rw [if_neg e]; split <;> omega

theorem cntB_ext {h h' : Nat → Bool} : ∀ n, (∀ i, i < n → h i = h' i) → cntB h n = cntB h' n
  | 0, _ => rfl
  | n + 1, hi => by simp only [cntB]; rw [cntB_ext n fun i hn => hi i (by omega), hi n (by omega)]

def boolOf : Option Value → Bool | some (.bool b) => b | _ => false
def leftB (w : World) (g N : Nat) : Nat := cntB (fun i => boolOf (w.cell? ⟨g, i, none⟩)) N
theorem BAt.left {w : World} {g N : Nat} {h : Nat → Bool} (a : BAt w g h N) : leftB w g N = cntB h N := cntB_ext N fun i hi => by rw [a.cell hi]; rfl
def agOf : Value → Nat | .bool true => 1 | _ => 0

theorem star_closed {m : SenseT} {z : List Int} {N : Nat} {ho : Nat → Bool} (hA : Ahead m) (hN : N = z.length + 1) (hc : ∀ i j, i < N → j < N → ho i = true → m z i j → ho j = true) {i j : Nat} (hi : i < N) (h : ho i = true) (hs : StarT m z i j) : ho j = true := by
  induction hs with
  | here i => exact h
  | @step i k j a hr ih =>
    have := (hA z i k (by omega) a).2
    exact ih (by omega) (hc i k hi (by omega) h a)

theorem StarT.snoc {m : SenseT} {z : List Int} {i k j : Nat} (h : StarT m z i k) (h' : m z k j) : StarT m z i j := h.trans (.step h' (.here _))

set_option maxHeartbeats 3200000 in
set_option maxRecDepth 100000 in
theorem ends_star (ps : List PartR) (L : Value) (k : Nat) (p : PartR) (q : Nat) (m : SenseT) (hk : ps[k]? = some p) (hkind : p.kind = 5) (hq : p.kids = [Int.ofNat q]) (a : Option Addr) (cap : Nat) (z : List Int) (N : Nat) (hN : N = z.length + 1) (hn : z.length ≤ 60) (gf : Nat) (h : Nat → Bool) (W : World) (hL : PL W L ps) (hps : ps.length ≤ 13000) (hf : BAt W gf h N) (hA : Ahead m)
    (hS : ∀ (W' : World) (gf' : Nat) (h' : Nat → Bool), W.grownBy W' none → BAt W' gf' h' N → Calls Try.prog 20 #[L, .int .i64 q, .slice a z.length cap, .slice (some ⟨gf', 0, none⟩) N N] W' (Ended z N W' m h')) :
    Calls Try.prog 20 #[L, .int .i64 k, .slice a z.length cap, .slice (some ⟨gf, 0, none⟩) N N] W (Ended z N W (starD m) h) := by
  obtain ⟨g, capL, rfl, c0, c1, c2⟩ := hL.get hk
  have hlt := (List.getElem?_eq_some_iff.1 hk).1
  have hlt' : (k : Int) < (ps.length : Int) := by omega
  have HN : Hid (N = z.length + 1) := hN
  have hN1 : z.length < N := by omega
  have hN2 : N ≤ 61 := by omega
  have hN3 : (N : Int) ≤ 61 := by omega
  obtain ⟨gK, capK, hkv, hkc⟩ : ∃ gK capK, p.kv = .slice (some ⟨gK, 0, none⟩) 1 capK ∧ W.cell? ⟨gK, 0, none⟩ = some (.int .i64 q) := by
    rcases (hL.at_ p (List.mem_of_getElem? hk)).2 with h1 | ⟨gK, capK, _, h1, h2⟩
    · rw [h1] at hq; cases hq
    · rw [hq] at h1 h2
      exact ⟨gK, capK, h1, by have := h2 0 (by simp); simpa using this⟩
  rw [hkind] at c0
  rw [hkv] at c2
  have HS : Hid (∀ (W' : World) (gf' : Nat) (h' : Nat → Bool), W.grownBy W' none → BAt W' gf' h' N → Calls Try.prog 20 #[.slice (some ⟨g, 0, none⟩) ps.length capL, .int .i64 q, .slice a z.length cap, .slice (some ⟨gf', 0, none⟩) N N] W' (Ended z N W' m h')) := hS
  have hmk := bmake (W.alloc (.cells #[.int .i64 5, .int .i64 p.let_, .slice (some ⟨gK, 0, none⟩) 1 capK] 67)) N hN2
  have G1 : Hid (W.grownBy ((W.alloc (.cells #[.int .i64 5, .int .i64 p.let_, .slice (some ⟨gK, 0, none⟩) 1 capK] 67)).alloc (.cells (Array.replicate N (Value.bool false)) 4)) none) := grown_trans (World.grownBy_alloc _ _ _) (World.grownBy_alloc _ _ _)
  have B1 : Hid (BAt ((W.alloc (.cells #[.int .i64 5, .int .i64 p.let_, .slice (some ⟨gK, 0, none⟩) 1 capK] 67)).alloc (.cells (Array.replicate N (Value.bool false)) 4)) (W.heap.size + 1) (fun _ => false) N) := by
    have := BAt.made (W.alloc (.cells #[.int .i64 5, .int .i64 p.let_, .slice (some ⟨gK, 0, none⟩) 1 capK] 67)) N
    have e : (W.alloc (.cells #[.int .i64 5, .int .i64 p.let_, .slice (some ⟨gK, 0, none⟩) 1 capK] 67)).heap.size = W.heap.size + 1 := by simp
    rw [e] at this
    exact this
  have D1 : Hid (((W.alloc (.cells #[.int .i64 5, .int .i64 p.let_, .slice (some ⟨gK, 0, none⟩) 1 capK] 67)).alloc (.cells (Array.replicate N (Value.bool false)) 4)).cell? ⟨W.heap.size, 2, none⟩ = some (.slice (some ⟨gK, 0, none⟩) 1 capK)) := by
    show World.cell? _ _ = _
    rw [World.cell?_alloc_lt _ _ _ (by simp)]
    simp
  obtain ⟨W', hcp, HB, HG⟩ := bcopy B1.out (hf.kept G1.out (by simp)) hN2
  have G2 : Hid (W.grownBy W' none) := grown_new G1.out HG.out (by omega)
  have D2 : Hid (W'.cell? ⟨W.heap.size, 2, none⟩ = some (.slice (some ⟨gK, 0, none⟩) 1 capK)) := cell_beside D1.out HG.out (by simp)
  have HKC : Hid (W.cell? ⟨gK, 0, none⟩ = some (.int .i64 q)) := hkc
  have HA : Hid (Ahead m) := hA
  clear hkv hL hk hN hf hS hkc hq B1 G1 D1 HG hA
  go_enter Try.func20, Try.ntmps20
  go_wp2_with fail
  go_loopw [16] (fun v wr => ∃ (ag : Bool) (ho : Nat → Bool), v = .bool ag ∧ BAt wr (W.heap.size + 1) ho N ∧ W.grownBy wr none ∧ wr.cell? ⟨W.heap.size, 2, none⟩ = some (.slice (some ⟨gK, 0, none⟩) 1 capK) ∧ (∀ j, j < N → h j = true → ho j = true) ∧ (∀ j, j < N → ho j = true → ∃ i, i < N ∧ h i = true ∧ StarT m z i j) ∧ (ag = false → ∀ i j, i < N → j < N → ho i = true → m z i j → ho j = true)) (fun v wr => 2 * leftB wr (W.heap.size + 1) N + agOf v)
  case atStart => exact ⟨true, h, rfl, HB.out, G2.out, D2.out, fun j _ h => h, fun j hj hh => ⟨j, hj, hh, .here _⟩, fun e => by cases e⟩
  case round =>
    clear HB G2 D2
    obtain ⟨ag, ho, rfl, hb, hg, hd, h1, h2, h3⟩ := hrel
    have H1 : Hid (∀ j, j < N → h j = true → ho j = true) := h1
    have H2 : Hid (∀ j, j < N → ho j = true → ∃ i, i < N ∧ h i = true ∧ StarT m z i j) := h2
    have G : Hid (W.grownBy wr none) := hg
    have B : Hid (BAt wr (W.heap.size + 1) ho N) := hb
    have PL0 : Hid (leftB wr (W.heap.size + 1) N = cntB ho N) := hb.left
    cases ag with
    | false =>
      have E : Hid (Ended z N W (starD m) h (.returned (.slice (some ⟨W.heap.size + 1, 0, none⟩) N N)) wr) := by
        refine ⟨_, ho, rfl, hb, by omega, hg, fun j hj => ⟨h2 j hj, ?_⟩⟩
        rintro ⟨i, hi, hhi, hs⟩
        exact star_closed HA.out HN.out (h3 rfl) hi (h1 i hi hhi) hs
      clear hb hg hd h1 h2 h3 G B H1 H2
      go_wp2_with fail
      go_ret
      exact E.out
    | true =>
      have kc := G.out.cell HKC.out (by simp)
      have C : Hid (Calls Try.prog 20 #[.slice (some ⟨g, 0, none⟩) ps.length capL, .int .i64 q, .slice a z.length cap, .slice (some ⟨W.heap.size + 1, 0, none⟩) N N] wr (Ended z N wr m ho)) := HS.out wr (W.heap.size + 1) ho G.out hb
      clear hb hg h1 h2 h3
      go_wp2_with fail
      refine C.out.mono ?_
      rintro e w2 ⟨gx, hx, rfl, hbx, hgx, hg2, hjx⟩
      have BX : Hid (BAt w2 gx hx N) := hbx
      have B2 : Hid (BAt w2 (W.heap.size + 1) ho N) := B.out.kept hg2 (by simp)
      have G2 : Hid (W.grownBy w2 none) := grown_trans G.out hg2
      have D2 : Hid (w2.cell? ⟨W.heap.size, 2, none⟩ = some (.slice (some ⟨gK, 0, none⟩) 1 capK)) := cell_beside hd hg2 (by simp)
      have HJX : Hid (∀ j, j < N → (hx j = true ↔ ∃ i, i < N ∧ ho i = true ∧ m z i j)) := hjx
      have hne : Hid (W.heap.size + 1 ≠ gx ∧ W.heap.size ≠ gx) := by
        have := B.out.lt
        show _ ∧ _
        omega
      clear hbx hg2 hjx B G C kc hd
      go_wp2_with fail
      go_loopw [16, 18] (fun v16 v wq => ∃ (i : Nat) (ag : Bool), v = .int .i64 i ∧ v16 = .bool ag ∧ i ≤ N ∧ BAt wq (W.heap.size + 1) (fun j => if j < i then ho j || hx j else ho j) N ∧ BAt wq gx hx N ∧ W.grownBy wq none ∧ wq.cell? ⟨W.heap.size, 2, none⟩ = some (.slice (some ⟨gK, 0, none⟩) 1 capK) ∧ (ag = true ↔ ∃ j, j < i ∧ hx j = true ∧ ho j = false)) (fun _ v _ => N - (intOf v).toNat)
      case atStart => exact ⟨0, false, rfl, rfl, by omega, B2.out.ext (fun i hi => by simp), BX.out, G2.out, D2.out, by simp⟩
      case round =>
        clear B2 BX G2 D2
        obtain ⟨i, ag, rfl, rfl, hi, hb3, hb4, hg3, hd3, hag⟩ := hrel
        by_cases hil : i < N
        · have hil' : (i : Int) < (N : Int) := by omega
          have oc := hb3.cell (i := i) hil
          have of1 := hb3.fz i
          have xc := hb4.cell (i := i) hil
          have xf := hb4.fz i
          simp only [Nat.lt_irrefl, if_false] at oc
          have B3 : Hid (∀ y : Bool, y = (ho i || hx i) → BAt (wr.setCell ⟨W.heap.size + 1, i, none⟩ (.bool y)) (W.heap.size + 1) (fun j => if j < i + 1 then ho j || hx j else ho j) N) := by
            intro y hy
            refine (hb3.set i y).ext fun j hj => ?_
            by_cases hji : j = i
            · subst hji; simp [hy]
            · have : j < i + 1 ↔ j < i := by omega
              simp only [this, hji, if_false]
          have X3 : Hid (∀ y : Bool, BAt (wr.setCell ⟨W.heap.size + 1, i, none⟩ (.bool y)) gx hx N) := fun y => hb4.kept (grown_set _ _ _) (by have := hne.out.1; simpa using this)
          have G3 : Hid (∀ y : Bool, W.grownBy (wr.setCell ⟨W.heap.size + 1, i, none⟩ (.bool y)) none) := fun y => grown_new hg3 (grown_set _ _ _) (by simp)
          have D3 : Hid (∀ y : Bool, (wr.setCell ⟨W.heap.size + 1, i, none⟩ (.bool y)).cell? ⟨W.heap.size, 2, none⟩ = some (.slice (some ⟨gK, 0, none⟩) 1 capK)) := fun y => cell_beside hd3 (grown_set _ _ _) (by simp)
          have AG : Hid (∀ y : Bool, y = (ag || (hx i && !ho i)) → (y = true ↔ ∃ j, j < i + 1 ∧ hx j = true ∧ ho j = false)) := by
            intro y hy
            rw [hy]
            simp only [Bool.or_eq_true, Bool.and_eq_true, Bool.not_eq_true', hag]
            constructor
            · rintro (⟨j, h1, h2⟩ | h2)
              · exact ⟨j, by omega, h2⟩
              · exact ⟨i, by omega, h2⟩
            · rintro ⟨j, h1, h2⟩
              by_cases e : j = i
              · subst e; exact .inr h2
              · exact .inl ⟨j, by omega, h2⟩
          clear hb3 hb4 hg3 hd3 hag
          generalize ho i = y0 at *
          generalize hx i = y1 at *
          cases ag <;> cases y0 <;> cases y1 <;>
            (go_wp2_with fail
             go_roundw
             case rel => exact ⟨i + 1, _, by go_num, rfl, by omega, B3.out _ (by rfl), X3.out _, G3.out _, D3.out _, AG.out _ (by rfl)⟩
             case measure => simp [intOf]; omega)
        · have hil' : ¬ (i : Int) < (N : Int) := by omega
          have B4 : Hid (BAt wr (W.heap.size + 1) (fun j => if j < i then ho j || hx j else ho j) N) := hb3
          have G4 : Hid (W.grownBy wr none) := hg3
          have D4 : Hid (wr.cell? ⟨W.heap.size, 2, none⟩ = some (.slice (some ⟨gK, 0, none⟩) 1 capK)) := hd3
          have AG : Hid (ag = true ↔ ∃ j, j < i ∧ hx j = true ∧ ho j = false) := hag
          have hiN : i = N := by omega
          clear hb3 hb4 hg3 hd3 hag
          go_wp2_with fail
          go_roundw
          case rel =>
            have hv : ∀ j, j < N → (if j < i then ho j || hx j else ho j) = (ho j || hx j) := fun j hj => if_pos (by omega)
            refine ⟨ag, _, rfl, B4.out, G4.out, D4.out, fun j hj hh => ?_, fun j hj hh => ?_, fun hag i' j hi' hj hh hm => ?_⟩
            · show (if j < i then ho j || hx j else ho j) = true
              rw [hv j hj, H1.out j hj hh]; rfl
            · have hh' : (if j < i then ho j || hx j else ho j) = true := hh
              rw [hv j hj, Bool.or_eq_true] at hh'
              rcases hh' with hh' | hh'
              · exact H2.out j hj hh'
              · obtain ⟨r, h1, h2, h3⟩ := (HJX.out j hj).1 hh'
                obtain ⟨i0, h4, h5, h6⟩ := H2.out r h1 h2
                exact ⟨i0, h4, h5, h6.snoc h3⟩
            · have hno : ∀ j, j < N → hx j = true → ho j = true := by
                intro j hj hx1
                by_cases e : ho j = true
                · exact e
                · have : ag = true := AG.out.2 ⟨j, by omega, hx1, by simpa using e⟩
                  rw [hag] at this
                  cases this
              have hh' : (if i' < i then ho i' || hx i' else ho i') = true := hh
              rw [hv i' hi', Bool.or_eq_true] at hh'
              have hoi : ho i' = true := hh'.elim id (hno i' hi')
              have hxj : hx j = true := (HJX.out j hj).2 ⟨i', hi', hoi, hm⟩
              show (if j < i then ho j || hx j else ho j) = true
              rw [hv j hj, hxj, Bool.or_true]
          case measure =>
            rw [B4.out.left, PL0.out]
            have hv : ∀ j, j < N → (if j < i then ho j || hx j else ho j) = (ho j || hx j) := fun j hj => if_pos (by omega)
            cases ag with
            | false =>
              have := cntB_mono (h := ho) (h' := fun j => if j < i then ho j || hx j else ho j) N (fun j hj hh => by show (if j < i then ho j || hx j else ho j) = true; rw [hv j hj, hh]; rfl)
              simp only [agOf]
              omega
            | true =>
              obtain ⟨j, hj1, hj2, hj3⟩ := AG.out.1 rfl
              have := cntB_lt (h := ho) (h' := fun j => if j < i then ho j || hx j else ho j) N (fun j hj hh => by show (if j < i then ho j || hx j else ho j) = true; rw [hv j hj, hh]; rfl) ⟨j, by omega, by show (if j < i then ho j || hx j else ho j) = true; rw [hv j (by omega), hj2, Bool.or_true], hj3⟩
              simp only [agOf]
              omega

end Go.Proofs.Yticmfgclkepgoaa

namespace Go.Proofs.Yticmfgclkepgoaa
open Go.RowKit
set_option linter.unusedVariables false

/-- What a text tells of a word from place to place. -/
def den : Rx → SenseT
  | .none => noneT
  | .empty => emptyT
  | .letter c => letterT c
  | .alt a b => fun z i j => den a z i j ∨ den b z i j
  | .cat a b => fun z i j => ∃ k, den a z i k ∧ den b z k j
  | .star a => starD (den a)
theorem den_star (m : Rx) : den (starS m) = starD (den m) := by
  cases m with
  | star m => exact (starD_star (den m)).symm
  | _ => rfl
theorem den_getD (ms : List Rx) (k : Nat) : (ms.map den).getD k noneT = den (ms.getD k noneS) := by
  simp only [List.getD, List.getElem?_map]
  cases ms[k]? <;> rfl
theorem den_alts (z : List Int) (i j : Nat) : ∀ (ms : List Rx) (m : Rx), den (ms.foldl .alt m) z i j ↔ den m z i j ∨ ∃ k, k < ms.length ∧ (ms.map den).getD k noneT z i j
  | [], m => by simp
  | a :: ms, m => by
    rw [List.foldl_cons, den_alts z i j ms]
    show (den m z i j ∨ den a z i j) ∨ _ ↔ _
    rw [or_assoc]
    refine or_congr Iff.rfl ⟨?_, ?_⟩
    · rintro (h | ⟨k, hk, h⟩)
      · exact ⟨0, by simp, by simpa using h⟩
      · exact ⟨k + 1, by simp; omega, by simpa using h⟩
    · rintro ⟨k, hk, h⟩
      cases k with
      | zero => exact .inl (by simpa using h)
      | succ k => exact .inr ⟨k, by simp at hk; omega, by simpa using h⟩
theorem den_either {ms : List Rx} (h0 : 0 < ms.length) : den (eitherOf ms) = eitherT (ms.map den) := by
  cases ms with
  | nil => simp at h0
  | cons m ms =>
    funext z i j
    refine propext ?_
    show den (ms.foldl .alt m) z i j ↔ _
    rw [den_alts]
    constructor
    · rintro (h | ⟨k, hk, h⟩)
      · exact ⟨0, by simp, by simpa using h⟩
      · exact ⟨k + 1, by simp; omega, by simpa using h⟩
    · rintro ⟨k, hk, h⟩
      cases k with
      | zero => exact .inl (by simpa using h)
      | succ k => exact .inr ⟨k, by simp at hk; omega, by simpa using h⟩
theorem den_cats (z : List Int) (j : Nat) : ∀ (ms : List Rx) (m : Rx) (i : Nat), den (ms.foldl .cat m) z i j ↔ ∃ k, den m z i k ∧ rowT (ms.map den) z k j
  | [], m, i => ⟨fun h => ⟨j, h, rfl⟩, fun ⟨k, h, e⟩ => by have e' : k = j := e; subst e'; exact h⟩
  | a :: ms, m, i => by
    rw [List.foldl_cons, den_cats z j ms]
    constructor
    · rintro ⟨k, ⟨l, h1, h2⟩, h3⟩
      exact ⟨l, h1, k, h2, h3⟩
    · rintro ⟨l, h1, k, h2, h3⟩
      exact ⟨k, ⟨l, h1, h2⟩, h3⟩
theorem den_row (ms : List Rx) : den (rowOf ms) = rowT (ms.map den) := by
  cases ms with
  | nil => rfl
  | cons m ms =>
    funext z i j
    exact propext (den_cats z j ms m i)
theorem den_ahead : ∀ m : Rx, Ahead (den m)
  | .none => fun z i j hi h => h.elim
  | .empty => fun z i j hi h => by have h' : i = j := h; subst h'; exact ⟨Nat.le_refl _, hi⟩
  | .letter c => fun z i j hi h => by obtain ⟨h1, h2, rfl⟩ := h; omega
  | .alt a b => fun z i j hi h => by
    rcases h with h | h
    · exact den_ahead a z i j hi h
    · exact den_ahead b z i j hi h
  | .cat a b => fun z i j hi h => by
    obtain ⟨k, h1, h2⟩ := h
    have e1 := den_ahead a z i k hi h1
    have e2 := den_ahead b z k j e1.2 h2
    omega
  | .star a => starD_ahead (den_ahead a)

theorem endsR_any {ps : List PartR} {st k : Nat} {m : Rx} (h : Means ps st k m) (L : Value) (a : Option Addr) (cap : Nat) (z : List Int) (N : Nat) (hN : N = z.length + 1) (hn : z.length ≤ 60) (hps : ps.length ≤ 13000) :
    ∀ (W : World) (gf : Nat) (hh : Nat → Bool), PL W L ps → Ints W a z → BAt W gf hh N → Calls Try.prog 20 #[L, .int .i64 k, .slice a z.length cap, .slice (some ⟨gf, 0, none⟩) N N] W (Ended z N W (den m) hh) := by
  induction h with
  | none k p h hk => intro W gf hh hL hz hf; exact ends_none ps L k p h hk a cap z N hN hn gf hh W hL hps
  | empty k p h hk => intro W gf hh hL hz hf; exact ends_empty ps L k p h hk a cap z N hN hn gf hh W hL hps hf
  | letter k p h hk => intro W gf hh hL hz hf; exact ends_letter ps L k p h hk a cap z N hN hn gf hh W hL hps hf hz
  | either st k p qs ms h hk h0 hq hl hm he ih =>
    intro W gf hh hL hz hf
    rw [den_either h0.1]
    exact ends_either ps L k p qs (ms.map den) h hk (by rw [List.length_map]; exact h0.1) hq (by rw [List.length_map]; exact hl) (by rw [List.length_map]; exact h0.2) a cap z N hN hn gf hh W hL hps hf fun t ht W' gf' h' hg hb => by rw [den_getD]; exact ih t (by rwa [List.length_map] at ht) W' gf' h' (hL.kept hg) (hz.grown hg) hb
  | row st k p qs ms h hk h0 hq hl hm he ih =>
    intro W gf hh hL hz hf
    rw [den_row]
    exact ends_row ps L k p qs (ms.map den) h hk (by rw [List.length_map]; exact h0.1) hq (by rw [List.length_map]; exact hl) (by rw [List.length_map]; exact h0.2) a cap z N hN hn gf hh W hL hps hf (fun t ht => by rw [den_getD]; exact den_ahead _) fun t ht W' gf' h' hg hb => by rw [den_getD]; exact ih t (by rwa [List.length_map] at ht) W' gf' h' (hL.kept hg) (hz.grown hg) hb
  | star st k p q m h hk hq hm he ih =>
    intro W gf hh hL hz hf
    rw [den_star]
    exact ends_star ps L k p q (den m) h hk hq a cap z N hN hn gf hh W hL hps hf (den_ahead m) fun W' gf' h' hg hb => ih W' gf' h' (hL.kept hg) (hz.grown hg) hb

theorem Parts.pl {w : World} {b : Nat} {L : Value} {ps : List PartR} (h : Parts w b L ps) : PL w L ps := by
  refine ⟨⟨h.own.1, ?_⟩, fun p hp => (h.at_ p hp).kept fun g _ _ => ⟨trivial, rfl⟩⟩
  rcases h.own.2 with h1 | ⟨g, cap, cur, h1, h2, h3⟩
  · exact .inl h1
  · exact .inr ⟨g, cap, cur, h1, Nat.zero_le _, h3⟩

open Classical in
/-- What the reference answers of a word. -/
noncomputable def saysB (z : List Int) (m : SenseT) : Bool := decide (m z 0 z.length)

open Classical in
theorem saysB_iff (z : List Int) (m : SenseT) : saysB z m = true ↔ m z 0 z.length := by
  unfold saysB
  exact decide_eq_true_iff

set_option maxRecDepth 100000 in
set_option maxHeartbeats 800000 in
theorem rhas_any {ps : List PartR} {st k : Nat} {m : Rx} (h : Means ps st k m) (hk : k + 1 = ps.length) (L : Value) (a : Option Addr) (cap : Nat) (z : List Int) (hn : z.length ≤ 60) (hps : ps.length ≤ 13000) (W : World) (hL : PL W L ps) (hz : Ints W a z) :
    Calls Try.prog 10 #[L, .slice a z.length cap] W fun e w' => e = .returned (.bool (saysB z (den m))) ∧ W.grownBy w' none := by
  obtain ⟨g, capL, rfl, _, _⟩ := hL.own.form (by omega)
  obtain ⟨r, hr⟩ : ∃ r, saysB z (den m) = r := ⟨_, rfl⟩
  rw [hr]
  have HR : Hid (saysB z (den m) = r) := hr
  clear hr
  have hmk := bmake W (z.length + 1) (by omega)
  have e0 : ((z.length + 1 : Nat) : Int) = (z.length : Int) + 1 := by omega
  rw [e0] at hmk
  have B0 : Hid (BAt (W.alloc (.cells (Array.replicate (z.length + 1) (Value.bool false)) 4)) W.heap.size (fun _ => false) (z.length + 1)) := BAt.made W (z.length + 1)
  have B1 : Hid (BAt ((W.alloc (.cells (Array.replicate (z.length + 1) (Value.bool false)) 4)).setCell ⟨W.heap.size, 0, none⟩ (.bool true)) W.heap.size (fun i => decide (i = 0)) (z.length + 1)) := (B0.out.set 0 true).ext fun i hi => by by_cases e : i = 0 <;> simp [e]
  have G1 : Hid (W.grownBy ((W.alloc (.cells (Array.replicate (z.length + 1) (Value.bool false)) 4)).setCell ⟨W.heap.size, 0, none⟩ (.bool true)) none) := grown_new (World.grownBy_alloc _ _ _) (grown_set _ _ _) (Nat.le_refl _)
  have C : Hid (Calls Try.prog 20 #[.slice (some ⟨g, 0, none⟩) ps.length capL, .int .i64 k, .slice a z.length cap, .slice (some ⟨W.heap.size, 0, none⟩) (z.length + 1) (z.length + 1)] ((W.alloc (.cells (Array.replicate (z.length + 1) (Value.bool false)) 4)).setCell ⟨W.heap.size, 0, none⟩ (.bool true)) (Ended z (z.length + 1) ((W.alloc (.cells (Array.replicate (z.length + 1) (Value.bool false)) 4)).setCell ⟨W.heap.size, 0, none⟩ (.bool true)) (den m) (fun i => decide (i = 0)))) :=
    endsR_any h _ a cap z (z.length + 1) rfl hn hps _ _ _ (hL.kept G1.out) (hz.grown G1.out) B1.out
  have oc := B0.out.cell (i := 0) (by omega)
  have ofz := B0.out.fz 0
  have ek : ((ps.length : Int) - 1) = (k : Int) := by omega
  clear hL hz B0 B1 e0
  go_enter Try.func10, Try.ntmps10
  go_wp2_with fail
  have ew : W.alloc (.cells ((Array.replicate (z.length + 1) (Value.bool false)).setIfInBounds 0 (.bool true)) 4) = (W.alloc (.cells (Array.replicate (z.length + 1) (Value.bool false)) 4)).setCell ⟨W.heap.size, 0, none⟩ (.bool true) := by go_simp
  rw [ew]
  refine C.out.mono ?_
  rintro e w2 ⟨gx, hx, rfl, hbx, hgx, hg2, hj⟩
  have G2 : Hid (W.grownBy w2 none) := grown_trans G1.out hg2
  have xc := hbx.cell (i := z.length) (by omega)
  have xf := hbx.fz z.length
  have hv : hx z.length = saysB z (den m) := by
    have := hj z.length (by omega)
    refine Bool.eq_iff_iff.2 (this.trans ?_)
    rw [saysB_iff]
    constructor
    · rintro ⟨i, _, h1, h2⟩
      have : i = 0 := by simpa using h1
      subst this
      exact h2
    · intro h
      exact ⟨0, by omega, by simp, h⟩
  rw [hv, HR.out] at xc
  have hzz : (z.length : Int) < (z.length : Int) + 1 := by omega
  clear hbx hg2 hj C G1 hv
  go_wp2_with fail
  go_ret
  exact ⟨rfl, G2.out⟩

/-- A piece of a word. -/
def sl (us : List Nat) (i j : Nat) : List Nat := (us.drop i).take (j - i)
theorem sl_len {us : List Nat} {i j : Nat} (h : j ≤ us.length) : (sl us i j).length = j - i := by unfold sl; rw [List.length_take, List.length_drop]; omega
theorem sl_app {us : List Nat} {i k j : Nat} (h1 : i ≤ k) (h2 : k ≤ j) : sl us i k ++ sl us k j = sl us i j := by
  unfold sl
  have e : us.drop k = (us.drop i).drop (k - i) := by rw [List.drop_drop]; congr 1; omega
  have e2 : j - i = (k - i) + (j - k) := by omega
  rw [e, e2, List.take_add]
theorem sl_split {us : List Nat} {i j : Nat} {u v : List Nat} (h1 : i ≤ j) (h2 : j ≤ us.length) (h : sl us i j = u ++ v) : ∃ k, i ≤ k ∧ k ≤ j ∧ sl us i k = u ∧ sl us k j = v := by
  have hl := congrArg List.length h
  rw [sl_len h2, List.length_append] at hl
  have h3 := sl_app (us := us) (i := i) (k := i + u.length) (j := j) (by omega) (by omega)
  rw [h] at h3
  have hk : (sl us i (i + u.length)).length = u.length := by rw [sl_len (by omega)]; omega
  obtain ⟨e1, e2⟩ := List.append_inj h3 hk
  exact ⟨i + u.length, by omega, by omega, e1, e2⟩
theorem sl_self (us : List Nat) (i : Nat) : sl us i i = [] := by unfold sl; rw [Nat.sub_self]; rfl
theorem star_den {a : Rx} {us : List Nat} (ih : ∀ i j, i ≤ us.length → (den a (natInts us) i j ↔ i ≤ j ∧ j ≤ us.length ∧ tells a (sl us i j))) {i j : Nat} (hi : i ≤ us.length) : starD (den a) (natInts us) i j ↔ i ≤ j ∧ j ≤ us.length ∧ StarW (tells a) (sl us i j) := by
  constructor
  · intro h
    have h' : StarT (den a) (natInts us) i j := h
    induction h' with
    | here i => exact ⟨Nat.le_refl _, hi, by rw [sl_self]; exact StarW.nil _⟩
    | @step i k j h1 h2 ihh =>
      obtain ⟨e1, e2, e3⟩ := (ih i k hi).1 h1
      obtain ⟨e4, e5, e6⟩ := ihh e2 h2
      refine ⟨by omega, e5, ?_⟩
      rw [← sl_app e1 e4]
      exact StarW.put e3 e6
  · rintro ⟨h1, h2, ws, h3, h4⟩
    show StarT (den a) (natInts us) i j
    induction ws generalizing i with
    | nil =>
      have hl := congrArg List.length h4
      rw [sl_len h2] at hl
      simp at hl
      obtain rfl : i = j := by omega
      exact .here _
    | cons y ws ihw =>
      rw [List.flatten_cons] at h4
      obtain ⟨k, e1, e2, e3, e4⟩ := sl_split h1 h2 h4
      exact .step ((ih i k hi).2 ⟨e1, by omega, by rw [e3]; exact h3 y (by simp)⟩) (ihw (by omega) e2 (fun x hx => h3 x (by simp [hx])) e4)
theorem den_tells : ∀ (m : Rx), NN m → ∀ (us : List Nat) (i j : Nat), i ≤ us.length → (den m (natInts us) i j ↔ i ≤ j ∧ j ≤ us.length ∧ tells m (sl us i j))
  | .none, _, us, i, j, hi => ⟨fun h => h.elim, fun h => h.2.2.elim⟩
  | .empty, _, us, i, j, hi => by
    constructor
    · intro h
      have h' : i = j := h
      subst h'
      exact ⟨Nat.le_refl _, hi, sl_self us i⟩
    · rintro ⟨h1, h2, h3⟩
      have hl := congrArg List.length (show sl us i j = [] from h3)
      rw [sl_len h2] at hl
      simp at hl
      show i = j
      omega
  | .letter c, hc, us, i, j, hi => by
    have hc' : 0 ≤ c := hc
    constructor
    · rintro ⟨h1, h2, rfl⟩
      have h1' : i < us.length := by simpa [natInts] using h1
      refine ⟨by omega, by omega, ?_⟩
      show sl us i (i + 1) = [c.toNat]
      have e : (natInts us).getD i 0 = ((us[i] : Nat) : Int) := by simp [natInts, List.getD, h1']
      have h4 : us[i] = c.toNat := by rw [e] at h2; rw [← h2]; rfl
      unfold sl
      rw [Nat.add_sub_cancel_left, List.drop_eq_getElem_cons h1', h4]
      rfl
    · rintro ⟨h1, h2, h3⟩
      have h3' : sl us i j = [c.toNat] := h3
      have hl := congrArg List.length h3'
      rw [sl_len h2] at hl
      simp at hl
      have hj : j = i + 1 := by omega
      subst hj
      have h1' : i < us.length := by omega
      unfold sl at h3'
      rw [Nat.add_sub_cancel_left, List.drop_eq_getElem_cons h1'] at h3'
      have h4 : us[i] = c.toNat := (List.cons.inj h3').1
      refine ⟨by simpa [natInts] using h1', ?_, rfl⟩
      have e : (natInts us).getD i 0 = ((us[i] : Nat) : Int) := by simp [natInts, List.getD, h1']
      rw [e, h4]
      exact Int.toNat_of_nonneg hc'
  | .alt a b, hn, us, i, j, hi => by
    show den a _ i j ∨ den b _ i j ↔ _
    rw [den_tells a hn.1 us i j hi, den_tells b hn.2 us i j hi]
    constructor
    · rintro (⟨h1, h2, h3⟩ | ⟨h1, h2, h3⟩)
      · exact ⟨h1, h2, .inl h3⟩
      · exact ⟨h1, h2, .inr h3⟩
    · rintro ⟨h1, h2, h3 | h3⟩
      · exact .inl ⟨h1, h2, h3⟩
      · exact .inr ⟨h1, h2, h3⟩
  | .cat a b, hn, us, i, j, hi => by
    constructor
    · rintro ⟨k, h1, h2⟩
      obtain ⟨e1, e2, e3⟩ := (den_tells a hn.1 us i k hi).1 h1
      obtain ⟨e4, e5, e6⟩ := (den_tells b hn.2 us k j e2).1 h2
      exact ⟨by omega, e5, sl us i k, sl us k j, (sl_app e1 e4).symm, e3, e6⟩
    · rintro ⟨h1, h2, u, v, h3, h4, h5⟩
      obtain ⟨k, e1, e2, e3, e4⟩ := sl_split h1 h2 h3
      exact ⟨k, (den_tells a hn.1 us i k hi).2 ⟨e1, by omega, by rw [e3]; exact h4⟩, (den_tells b hn.2 us k j (by omega)).2 ⟨e2, h2, by rw [e4]; exact h5⟩⟩
  | .star a, hn, us, i, j, hi => star_den (fun i j hi => den_tells a hn us i j hi) hi
theorem says_tells {m : Rx} (hn : NN m) (us : List Nat) : saysB (natInts us) (den m) = true ↔ tells m us := by
  rw [saysB_iff, show (natInts us).length = us.length by simp [natInts], den_tells m hn us 0 us.length (Nat.zero_le _)]
  have e : sl us 0 us.length = us := by unfold sl; simp
  rw [e]
  exact ⟨fun h => h.2.2, fun h => ⟨Nat.zero_le _, Nat.le_refl _, h⟩⟩

end Go.Proofs.Yticmfgclkepgoaa
