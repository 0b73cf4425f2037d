/- Where words of a part can end, as the reference finds it: stars; and any part. -/
import Derived.Test.YtepldeogcoigkaaDoorERow
namespace Go.Proofs.YtepldeogcoigkaaDoor
open Go.RowKit
set_option linter.unusedVariables false

/-- How many of the first n are false. -/
def cntB (h : Nat → Bool) : Nat → Nat
  | 0 => 0
  | n + 1 => cntB h n + (if h n = true then 0 else 1)

theorem cntB_mono {h h' : Nat → Bool} : ∀ n, (∀ i, i < n → h i = true → h' i = true) → cntB h' n ≤ cntB h n
  | 0, _ => Nat.le_refl _
  | n + 1, hi => by
    have h1 := cntB_mono n fun i hn => hi i (by omega)
    have h2 := hi n (by omega)
    simp only [cntB]
    by_cases e : h n = true
    · rw [if_pos e, if_pos (h2 e)]; omega
    · rw [if_neg e]; split <;> omega

theorem cntB_lt {h h' : Nat → Bool} : ∀ n, (∀ i, i < n → h i = true → h' i = true) → (∃ j, j < n ∧ h' j = true ∧ h j = false) → cntB h' n < cntB h n
  | 0, _, ⟨j, hj, _⟩ => by omega
  | n + 1, hi, ⟨j, hj, h1, h2⟩ => by
    have hm := cntB_mono n fun i hn => hi i (by omega)
    simp only [cntB]
    by_cases e : j = n
    · subst e
      rw [if_pos h1, if_neg (by rw [h2]; decide)]
      omega
    · have := cntB_lt n (fun i hn => hi i (by omega)) ⟨j, by omega, h1, h2⟩
      have h3 := hi n (by omega)
      by_cases e : h n = true
      · rw [if_pos e, if_pos (h3 e)]; omega
      · rw [if_neg e]; split <;> omega

theorem cntB_ext {h h' : Nat → Bool} : ∀ n, (∀ i, i < n → h i = h' i) → cntB h n = cntB h' n
  | 0, _ => rfl
  | n + 1, hi => by simp only [cntB]; rw [cntB_ext n fun i hn => hi i (by omega), hi n (by omega)]

def boolOf : Option Value → Bool | some (.bool b) => b | _ => false
def leftB (w : World) (g N : Nat) : Nat := cntB (fun i => boolOf (w.cell? ⟨g, i, none⟩)) N
theorem BAt.left {w : World} {g N : Nat} {h : Nat → Bool} (a : BAt w g h N) : leftB w g N = cntB h N := cntB_ext N fun i hi => by rw [a.cell hi]; rfl
def agOf : Value → Nat | .bool true => 1 | _ => 0

theorem star_closed {m : Sense} {z : List Int} {N : Nat} {ho : Nat → Bool} (hA : Ahead m) (hN : N = z.length + 1) (hc : ∀ i j, i < N → j < N → ho i = true → m z i j → ho j = true) {i j : Nat} (hi : i < N) (h : ho i = true) (hs : Star m z i j) : ho j = true := by
  induction hs with
  | here i => exact h
  | @step i k j a hr ih =>
    have := (hA z i k (by omega) a).2
    exact ih (by omega) (hc i k hi (by omega) h a)

theorem Star.snoc {m : Sense} {z : List Int} {i k j : Nat} (h : Star m z i k) (h' : m z k j) : Star m z i j := h.trans (.step h' (.here _))

set_option maxRecDepth 100000 in
set_option maxHeartbeats 3200000 in
theorem ends_star (ps : List PartR) (L : Value) (k : Nat) (p : PartR) (q : Nat) (m : Sense) (hk : ps[k]? = some p) (hkind : p.kind = 5) (hq : p.kids = [Int.ofNat q]) (a : Option Addr) (cap : Nat) (z : List Int) (N : Nat) (hN : N = z.length + 1) (hn : z.length ≤ 60) (gf : Nat) (h : Nat → Bool) (W : World) (hL : PL W L ps) (hps : ps.length ≤ 13000) (hf : BAt W gf h N) (hA : Ahead m)
    (hS : ∀ (W' : World) (gf' : Nat) (h' : Nat → Bool), W.grownBy W' none → BAt W' gf' h' N → Calls Tryd.prog 14 #[L, .int .i64 q, .slice a z.length cap, .slice (some ⟨gf', 0, none⟩) N N] W' (Ended z N W' m h')) :
    Calls Tryd.prog 14 #[L, .int .i64 k, .slice a z.length cap, .slice (some ⟨gf, 0, none⟩) N N] W (Ended z N W (starS m) h) := by
  obtain ⟨g, capL, rfl, c0, c1, c2⟩ := hL.get hk
  have hlt := (List.getElem?_eq_some_iff.1 hk).1
  have hlt' : (k : Int) < (ps.length : Int) := by omega
  have HN : Hid (N = z.length + 1) := hN
  have hN1 : z.length < N := by omega
  have hN2 : N ≤ 61 := by omega
  have hN3 : (N : Int) ≤ 61 := by omega
  obtain ⟨gK, capK, hkv, hkc⟩ : ∃ gK capK, p.kv = .slice (some ⟨gK, 0, none⟩) 1 capK ∧ W.cell? ⟨gK, 0, none⟩ = some (.int .i64 q) := by
    rcases (hL.at_ p (List.mem_of_getElem? hk)).2 with h1 | ⟨gK, capK, _, h1, h2⟩
    · rw [h1] at hq; cases hq
    · rw [hq] at h1 h2
      exact ⟨gK, capK, h1, by have := h2 0 (by simp); simpa using this⟩
  rw [hkind] at c0
  rw [hkv] at c2
  have HS : Hid (∀ (W' : World) (gf' : Nat) (h' : Nat → Bool), W.grownBy W' none → BAt W' gf' h' N → Calls Tryd.prog 14 #[.slice (some ⟨g, 0, none⟩) ps.length capL, .int .i64 q, .slice a z.length cap, .slice (some ⟨gf', 0, none⟩) N N] W' (Ended z N W' m h')) := hS
  have hmk := bmake (W.alloc (.cells #[.int .i64 5, .int .i64 p.let_, .slice (some ⟨gK, 0, none⟩) 1 capK] 70)) N hN2
  have G1 : Hid (W.grownBy ((W.alloc (.cells #[.int .i64 5, .int .i64 p.let_, .slice (some ⟨gK, 0, none⟩) 1 capK] 70)).alloc (.cells (Array.replicate N (Value.bool false)) 4)) none) := grown_trans (World.grownBy_alloc _ _ _) (World.grownBy_alloc _ _ _)
  have B1 : Hid (BAt ((W.alloc (.cells #[.int .i64 5, .int .i64 p.let_, .slice (some ⟨gK, 0, none⟩) 1 capK] 70)).alloc (.cells (Array.replicate N (Value.bool false)) 4)) (W.heap.size + 1) (fun _ => false) N) := by
    have := BAt.made (W.alloc (.cells #[.int .i64 5, .int .i64 p.let_, .slice (some ⟨gK, 0, none⟩) 1 capK] 70)) N
    have e : (W.alloc (.cells #[.int .i64 5, .int .i64 p.let_, .slice (some ⟨gK, 0, none⟩) 1 capK] 70)).heap.size = W.heap.size + 1 := by simp
    rw [e] at this
    exact this
  have D1 : Hid (((W.alloc (.cells #[.int .i64 5, .int .i64 p.let_, .slice (some ⟨gK, 0, none⟩) 1 capK] 70)).alloc (.cells (Array.replicate N (Value.bool false)) 4)).cell? ⟨W.heap.size, 2, none⟩ = some (.slice (some ⟨gK, 0, none⟩) 1 capK)) := by
    show World.cell? _ _ = _
    rw [World.cell?_alloc_lt _ _ _ (by simp)]
    simp
  obtain ⟨W', hcp, HB, HG⟩ := bcopy B1.out (hf.kept G1.out (by simp)) hN2
  have G2 : Hid (W.grownBy W' none) := grown_new G1.out HG.out (by omega)
  have D2 : Hid (W'.cell? ⟨W.heap.size, 2, none⟩ = some (.slice (some ⟨gK, 0, none⟩) 1 capK)) := cell_beside D1.out HG.out (by simp)
  have HKC : Hid (W.cell? ⟨gK, 0, none⟩ = some (.int .i64 q)) := hkc
  have HA : Hid (Ahead m) := hA
  clear hkv hL hk hN hf hS hkc hq B1 G1 D1 HG hA
  go_enter Tryd.func14, Tryd.ntmps14
  go_wp2_with fail
  go_loopw [16] (fun v wr => ∃ (ag : Bool) (ho : Nat → Bool), v = .bool ag ∧ BAt wr (W.heap.size + 1) ho N ∧ W.grownBy wr none ∧ wr.cell? ⟨W.heap.size, 2, none⟩ = some (.slice (some ⟨gK, 0, none⟩) 1 capK) ∧ (∀ j, j < N → h j = true → ho j = true) ∧ (∀ j, j < N → ho j = true → ∃ i, i < N ∧ h i = true ∧ Star m z i j) ∧ (ag = false → ∀ i j, i < N → j < N → ho i = true → m z i j → ho j = true)) (fun v wr => 2 * leftB wr (W.heap.size + 1) N + agOf v)
  case atStart => exact ⟨true, h, rfl, HB.out, G2.out, D2.out, fun j _ h => h, fun j hj hh => ⟨j, hj, hh, .here _⟩, fun e => by cases e⟩
  case round =>
    clear HB G2 D2
    obtain ⟨ag, ho, rfl, hb, hg, hd, h1, h2, h3⟩ := hrel
    have H1 : Hid (∀ j, j < N → h j = true → ho j = true) := h1
    have H2 : Hid (∀ j, j < N → ho j = true → ∃ i, i < N ∧ h i = true ∧ Star m z i j) := h2
    have G : Hid (W.grownBy wr none) := hg
    have B : Hid (BAt wr (W.heap.size + 1) ho N) := hb
    have PL0 : Hid (leftB wr (W.heap.size + 1) N = cntB ho N) := hb.left
    cases ag with
    | false =>
      have E : Hid (Ended z N W (starS m) h (.returned (.slice (some ⟨W.heap.size + 1, 0, none⟩) N N)) wr) := by
        refine ⟨_, ho, rfl, hb, by omega, hg, fun j hj => ⟨h2 j hj, ?_⟩⟩
        rintro ⟨i, hi, hhi, hs⟩
        exact star_closed HA.out HN.out (h3 rfl) hi (h1 i hi hhi) hs
      clear hb hg hd h1 h2 h3 G B H1 H2
      go_wp2_with fail
      go_ret
      exact E.out
    | true =>
      have kc := G.out.cell HKC.out (by simp)
      have C : Hid (Calls Tryd.prog 14 #[.slice (some ⟨g, 0, none⟩) ps.length capL, .int .i64 q, .slice a z.length cap, .slice (some ⟨W.heap.size + 1, 0, none⟩) N N] wr (Ended z N wr m ho)) := HS.out wr (W.heap.size + 1) ho G.out hb
      clear hb hg h1 h2 h3
      go_wp2_with fail
      refine C.out.mono ?_
      rintro e w2 ⟨gx, hx, rfl, hbx, hgx, hg2, hjx⟩
      have BX : Hid (BAt w2 gx hx N) := hbx
      have B2 : Hid (BAt w2 (W.heap.size + 1) ho N) := B.out.kept hg2 (by simp)
      have G2 : Hid (W.grownBy w2 none) := grown_trans G.out hg2
      have D2 : Hid (w2.cell? ⟨W.heap.size, 2, none⟩ = some (.slice (some ⟨gK, 0, none⟩) 1 capK)) := cell_beside hd hg2 (by simp)
      have HJX : Hid (∀ j, j < N → (hx j = true ↔ ∃ i, i < N ∧ ho i = true ∧ m z i j)) := hjx
      have hne : Hid (W.heap.size + 1 ≠ gx ∧ W.heap.size ≠ gx) := by
        have := B.out.lt
        show _ ∧ _
        omega
      clear hbx hg2 hjx B G C kc hd
      go_wp2_with fail
      go_loopw [16, 18] (fun v16 v wq => ∃ (i : Nat) (ag : Bool), v = .int .i64 i ∧ v16 = .bool ag ∧ i ≤ N ∧ BAt wq (W.heap.size + 1) (fun j => if j < i then ho j || hx j else ho j) N ∧ BAt wq gx hx N ∧ W.grownBy wq none ∧ wq.cell? ⟨W.heap.size, 2, none⟩ = some (.slice (some ⟨gK, 0, none⟩) 1 capK) ∧ (ag = true ↔ ∃ j, j < i ∧ hx j = true ∧ ho j = false)) (fun _ v _ => N - (intOf v).toNat)
      case atStart => exact ⟨0, false, rfl, rfl, by omega, B2.out.ext (fun i hi => by simp), BX.out, G2.out, D2.out, by simp⟩
      case round =>
        clear B2 BX G2 D2
        obtain ⟨i, ag, rfl, rfl, hi, hb3, hb4, hg3, hd3, hag⟩ := hrel
        by_cases hil : i < N
        · have hil' : (i : Int) < (N : Int) := by omega
          have oc := hb3.cell (i := i) hil
          have of1 := hb3.fz i
          have xc := hb4.cell (i := i) hil
          have xf := hb4.fz i
          simp only [Nat.lt_irrefl, if_false] at oc
          have B3 : Hid (∀ y : Bool, y = (ho i || hx i) → BAt (wr.setCell ⟨W.heap.size + 1, i, none⟩ (.bool y)) (W.heap.size + 1) (fun j => if j < i + 1 then ho j || hx j else ho j) N) := by
            intro y hy
            refine (hb3.set i y).ext fun j hj => ?_
            by_cases hji : j = i
            · subst hji; simp [hy]
            · have : j < i + 1 ↔ j < i := by omega
              simp only [this, hji, if_false]
          have X3 : Hid (∀ y : Bool, BAt (wr.setCell ⟨W.heap.size + 1, i, none⟩ (.bool y)) gx hx N) := fun y => hb4.kept (grown_set _ _ _) (by have := hne.out.1; simpa using this)
          have G3 : Hid (∀ y : Bool, W.grownBy (wr.setCell ⟨W.heap.size + 1, i, none⟩ (.bool y)) none) := fun y => grown_new hg3 (grown_set _ _ _) (by simp)
          have D3 : Hid (∀ y : Bool, (wr.setCell ⟨W.heap.size + 1, i, none⟩ (.bool y)).cell? ⟨W.heap.size, 2, none⟩ = some (.slice (some ⟨gK, 0, none⟩) 1 capK)) := fun y => cell_beside hd3 (grown_set _ _ _) (by simp)
          have AG : Hid (∀ y : Bool, y = (ag || (hx i && !ho i)) → (y = true ↔ ∃ j, j < i + 1 ∧ hx j = true ∧ ho j = false)) := by
            intro y hy
            rw [hy]
            simp only [Bool.or_eq_true, Bool.and_eq_true, Bool.not_eq_true', hag]
            constructor
            · rintro (⟨j, h1, h2⟩ | h2)
              · exact ⟨j, by omega, h2⟩
              · exact ⟨i, by omega, h2⟩
            · rintro ⟨j, h1, h2⟩
              by_cases e : j = i
              · subst e; exact .inr h2
              · exact .inl ⟨j, by omega, h2⟩
          clear hb3 hb4 hg3 hd3 hag
          generalize ho i = y0 at *
          generalize hx i = y1 at *
          cases ag <;> cases y0 <;> cases y1 <;>
            (go_wp2_with fail
             go_roundw
             case rel => exact ⟨i + 1, _, by go_num, rfl, by omega, B3.out _ (by rfl), X3.out _, G3.out _, D3.out _, AG.out _ (by rfl)⟩
             case measure => simp [intOf]; omega)
        · have hil' : ¬ (i : Int) < (N : Int) := by omega
          have B4 : Hid (BAt wr (W.heap.size + 1) (fun j => if j < i then ho j || hx j else ho j) N) := hb3
          have G4 : Hid (W.grownBy wr none) := hg3
          have D4 : Hid (wr.cell? ⟨W.heap.size, 2, none⟩ = some (.slice (some ⟨gK, 0, none⟩) 1 capK)) := hd3
          have AG : Hid (ag = true ↔ ∃ j, j < i ∧ hx j = true ∧ ho j = false) := hag
          have hiN : i = N := by omega
          clear hb3 hb4 hg3 hd3 hag
          go_wp2_with fail
          go_roundw
          case rel =>
            have hv : ∀ j, j < N → (if j < i then ho j || hx j else ho j) = (ho j || hx j) := fun j hj => if_pos (by omega)
            refine ⟨ag, _, rfl, B4.out, G4.out, D4.out, fun j hj hh => ?_, fun j hj hh => ?_, fun hag i' j hi' hj hh hm => ?_⟩
            · show (if j < i then ho j || hx j else ho j) = true
              rw [hv j hj, H1.out j hj hh]; rfl
            · have hh' : (if j < i then ho j || hx j else ho j) = true := hh
              rw [hv j hj, Bool.or_eq_true] at hh'
              rcases hh' with hh' | hh'
              · exact H2.out j hj hh'
              · obtain ⟨r, h1, h2, h3⟩ := (HJX.out j hj).1 hh'
                obtain ⟨i0, h4, h5, h6⟩ := H2.out r h1 h2
                exact ⟨i0, h4, h5, h6.snoc h3⟩
            · have hno : ∀ j, j < N → hx j = true → ho j = true := by
                intro j hj hx1
                by_cases e : ho j = true
                · exact e
                · have : ag = true := AG.out.2 ⟨j, by omega, hx1, by simpa using e⟩
                  rw [hag] at this
                  cases this
              have hh' : (if i' < i then ho i' || hx i' else ho i') = true := hh
              rw [hv i' hi', Bool.or_eq_true] at hh'
              have hoi : ho i' = true := hh'.elim id (hno i' hi')
              have hxj : hx j = true := (HJX.out j hj).2 ⟨i', hi', hoi, hm⟩
              show (if j < i then ho j || hx j else ho j) = true
              rw [hv j hj, hxj, Bool.or_true]
          case measure =>
            rw [B4.out.left, PL0.out]
            have hv : ∀ j, j < N → (if j < i then ho j || hx j else ho j) = (ho j || hx j) := fun j hj => if_pos (by omega)
            cases ag with
            | false =>
              have := cntB_mono (h := ho) (h' := fun j => if j < i then ho j || hx j else ho j) N (fun j hj hh => by show (if j < i then ho j || hx j else ho j) = true; rw [hv j hj, hh]; rfl)
              simp only [agOf]
              omega
            | true =>
              obtain ⟨j, hj1, hj2, hj3⟩ := AG.out.1 rfl
              have := cntB_lt (h := ho) (h' := fun j => if j < i then ho j || hx j else ho j) N (fun j hj hh => by show (if j < i then ho j || hx j else ho j) = true; rw [hv j hj, hh]; rfl) ⟨j, by omega, by show (if j < i then ho j || hx j else ho j) = true; rw [hv j (by omega), hj2, Bool.or_true], hj3⟩
              simp only [agOf]
              omega

end Go.Proofs.YtepldeogcoigkaaDoor
