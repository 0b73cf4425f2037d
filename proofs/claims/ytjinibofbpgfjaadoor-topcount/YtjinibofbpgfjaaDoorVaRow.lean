/- Rows of numbers of one's own; the program's column, step, numbers, weight. -/
import Derived.Test.YtjinibofbpgfjaaDoorVaTot
import Derived.Test.YtjinibofbpgfjaaDoorNuPlus
import Derived.Test.YtjinibofbpgfjaaDoorSkRow
namespace Go.Proofs.YtjinibofbpgfjaaDoor
open Go.RowKit
set_option linter.unusedVariables false
set_option linter.unusedSimpArgs false

def nmL (g : Nat → Int) : List Value := (nmA g).toList
theorem nmL_len (g : Nat → Int) : (nmL g).length = 13 := rfl
theorem nmL_get (g : Nat → Int) {k : Nat} (h : k < 13) : (nmL g)[k]? = some (.int .i64 (g k)) := by
  have e := nmA_get g h
  rw [← Array.getElem?_toList] at e
  exact e
def flatN (V : List Int) : List Value := V.flatMap fun v => nmL (ptF v)
theorem flatN_len (V : List Int) : (flatN V).length = V.length * 13 := by
  unfold flatN
  induction V with
  | nil => rfl
  | cons v V ih => rw [List.flatMap_cons, List.length_append, ih, nmL_len, List.length_cons]; omega
theorem flatN_get (V : List Int) : ∀ i, i < V.length → ∀ k, k < 13 → (flatN V)[i * 13 + k]? = some (.int .i64 (ptF (V.getD i 0) k)) := by
  induction V with
  | nil => intro i hi; simp at hi
  | cons v V ih =>
    intro i hi k hk
    have e : flatN (v :: V) = nmL (ptF v) ++ flatN V := rfl
    rw [e]
    cases i with
    | zero =>
      rw [Nat.zero_mul, Nat.zero_add, List.getElem?_append_left (by rw [nmL_len]; exact hk), nmL_get _ hk]
      rfl
    | succ i =>
      rw [List.getElem?_append_right (by rw [nmL_len]; omega), nmL_len]
      have e2 : (i + 1) * 13 + k - 13 = i * 13 + k := by omega
      rw [e2, ih i (by simpa using hi) k hk]
      rfl
theorem flatN_app (V U : List Int) : flatN (V ++ U) = flatN V ++ flatN U := by unfold flatN; rw [List.flatMap_append]
/-- Numbers of one's own. -/
structure OwnNu (W1 W : World) (a : Option Addr) (c : Nat) (V : List Int) : Prop where
  own : W.ownsRow W1.heap.size 44 13 (.slice a V.length c) V.length (flatN V)
  gr : W1.grownBy W none
theorem OwnNu.nil {W1 W : World} (g : W1.grownBy W none) : OwnNu W1 W none 0 [] := ⟨World.ownsRow_nil W _ _ _, g⟩
theorem OwnNu.nums {W1 W : World} {a : Option Addr} {c : Nat} {V : List Int} (h : OwnNu W1 W a c V) : NumsAt W a V := by
  by_cases h0 : V.length = 0
  · left; exact List.eq_nil_of_length_eq_zero h0
  · right
    rcases h.own.2 with ⟨h1, h3⟩ | ⟨g, cap, cur, h1, _⟩
    · exact absurd h3 h0
    · have h2 := h1
      simp only [Value.slice.injEq] at h1
      obtain ⟨rfl, _, rfl⟩ := h1
      refine ⟨g, 0, rfl, fun i hi k hk => ?_⟩
      have := h.own.cells (g := g) rfl (i * 13 + k) _ (flatN_get V i hi k hk)
      rw [add_off] at this
      rw [Nat.zero_add]
      rw [Nat.zero_add] at this
      exact this
theorem OwnNu.grown {W1 W W' : World} {a : Option Addr} {c : Nat} {V : List Int} (h : OwnNu W1 W a c V) (g : W.grownBy W' none) : OwnNu W1 W' a c V := ⟨h.own.kept g (by cases (Value.slice a V.length c).ownBlock <;> simp), grown_trans h.gr g⟩
theorem Tryd.infoNm : (Tryd.prog.info? 44).map (fun i => (i.zero, i.size, i.bytes)) = some (some (nmV fun _ => 0), 13, 104) := by kernel_rfl
theorem OwnNu.one {W1 W : World} {a : Option Addr} {c n : Nat} {V : List Int} (h : OwnNu W1 W a c V) (hn : V.length = n) (hl : n ≤ 900) (z : Int) :
    ∃ a1 c1 W', (AppY #[46, 46] 46 #[.slice a n c, .slice (some ⟨W.heap.size, 0, none⟩) 1 1]).run Tryd.prog (W.alloc (nmO (ptF z))) = .ok (.slice a1 (n + 1) c1) W' ∧ OwnNu W1 W' a1 c1 (V ++ [z]) := by
  subst hn
  obtain ⟨i0, hi0, hz0, hz1, hz2⟩ := info_partsY Tryd.infoNm
  have h1 := h.grown (grown_alloc W (nmO (ptF z)))
  have hb := heap_alloc_new W (nmO (ptF z))
  have hs := h.gr.size
  obtain ⟨g, cap, W3, hr, h2, h3, h4, h5⟩ := run_append_lies (P := Tryd.prog) (W.alloc (nmO (ptF z))) 46 46 W1.heap.size 44 i0 (nmV fun _ => 0) 13 104 Tryd.underlying46 hi0 hz0 hz1 hz2 rfl (by decide) (.slice a V.length c) V.length (flatN V) h1.own ⟨W.heap.size, 0, none⟩ 1 1 (nmL (ptF z)) rfl (fun j u hu => by
    rw [add_off, Nat.zero_add, cell_of_row _ _ j _ _ (0, 0) hb]
    simpa [nmL] using hu) (by intro u hu; simp [nmL] at hu; rcases hu with rfl | rfl | rfl | rfl | rfl | rfl | rfl | rfl | rfl | rfl | rfl | rfl | rfl <;> rfl) (by omega) (by unfold maxLen; omega) (by omega) (by simp; omega) _ rfl
  have e : flatN V ++ nmL (ptF z) = flatN (V ++ [z]) := by rw [flatN_app]; simp [flatN]
  rw [e] at h2
  refine ⟨some ⟨g, 0, none⟩, cap, W3, hr, ⟨by rw [List.length_append]; exact h2, grown_of_below ((below_of_grown h1.gr).grown h3 h1.gr.size (fun k hk => (h1.own.lt k hk).1))⟩⟩

/-- A row is answered; numbers are. -/
def RowP1 (l : List Int) (w : World) (e : Ending) (w' : World) : Prop := ∃ a c, e = .returned (.slice a l.length c) ∧ OwnN w w' a c l
def NumsP (V : List Int) (w : World) (e : Ending) (w' : World) : Prop := ∃ a c, e = .returned (.slice a V.length c) ∧ NumsAt w' a V ∧ w.grownBy w' none
theorem colW_snoc {t : List (List Int)} {k i : Nat} (hi : i < t.length) : colW (t.take (i + 1)) k = colW (t.take i) k ++ [(t.getD i []).getD k 0] := by
  unfold colW
  have e : t.getD i [] = t[i] := by rw [List.getD_eq_getElem?_getD, List.getElem?_eq_getElem hi]; rfl
  rw [e, List.take_add_one, List.getElem?_eq_getElem hi, List.map_append]
  rfl

attribute [local go_sem ↓] appY_fold in
set_option maxHeartbeats 3200000 in
set_option maxRecDepth 100000 in
theorem column_any (t : List (List Int)) (a : Option Addr) (n c k : Nat) (w : World) (ht : RowsAt w a t) (e1 : t.length = n) (hn : n ≤ 30) (hk : ∀ r, r ∈ t → k < r.length) (h30 : ∀ r, r ∈ t → r.length ≤ 30) :
    Calls Tryd.prog 40 #[.slice a n c, .int .i64 k] w (RowP1 (colW t k) w) := by
  have HT : Hid (RowsAt w a t) := ht
  have HL : Hid (t.length = n ∧ (∀ r, r ∈ t → k < r.length) ∧ ∀ r, r ∈ t → r.length ≤ 30) := ⟨e1, hk, h30⟩
  obtain ⟨Po, hPo⟩ : ∃ P, P = RowP1 (colW t k) w := ⟨_, rfl⟩
  have HPo : Hid (Po = RowP1 (colW t k) w) := hPo
  rw [← hPo]
  clear ht e1 hk h30 hPo
  go_enter Tryd.func40, Tryd.ntmps40
  go_wp2_with fail
  go_loopw [10, 5] (fun p q W => ∃ (i : Nat) (a : Option Addr) (c : Nat) (zs : List Int), p = .int .i64 i ∧ q = .slice a i c ∧ i ≤ n ∧ OwnN w W a c zs ∧ zs.length = i ∧ zs = colW (t.take i) k) (fun p _ _ => n - (intOf p).toNat)
  case atStart => exact ⟨0, none, 0, [], rfl, rfl, Nat.zero_le _, OwnN.nil (grown_refl _ _), rfl, rfl⟩
  case round =>
    obtain ⟨wi, hwi⟩ : ∃ W, W = wr := ⟨_, rfl⟩
    subst hwi
    obtain ⟨i, a', c', zs, rfl, rfl, hi, ho, hl, hz⟩ := hrel
    have HO : Hid (OwnN w wi a' c' zs ∧ zs.length = i ∧ zs = colW (t.take i) k) := ⟨ho, hl, hz⟩
    clear ho hl hz
    by_cases hlt : i < n
    · have io : (i : Int) < (n : Int) := by omega
      have hit : i < t.length := by rw [HL.out.1]; exact hlt
      obtain ⟨b, off, rfl, hc⟩ := (HT.out.grown HO.out.1.gr).at hit
      obtain ⟨r5, k5, q5, hr5, hm5⟩ := hc i hit
      have hrm : t.getD i [] ∈ t := by rw [List.getD_eq_getElem?_getD, List.getElem?_eq_getElem hit]; exact List.getElem_mem _
      have hk1 := HL.out.2.1 _ hrm
      have hk2 := HL.out.2.2 _ hrm
      obtain ⟨R, hR⟩ : ∃ R, t.getD i [] = R := ⟨_, rfl⟩
      rw [hR] at q5 hr5 hk1 hk2
      obtain ⟨b6, o6, rfl, hc6⟩ := hr5.at hk1
      have q6 := hc6 k hk1
      have i6 : (k : Int) < (R.length : Int) := by omega
      obtain ⟨x, hx⟩ : ∃ x, R.getD k 0 = x := ⟨_, rfl⟩
      rw [hx] at q6
      obtain ⟨a7, c7, w7, hrun, ho7⟩ := HO.out.1.one HO.out.2.1 (by omega) x
      have HO7 : Hid (OwnN w w7 a7 c7 (zs ++ [x]) ∧ (zs ++ [x]).length = i + 1 ∧ zs ++ [x] = colW (t.take (i + 1)) k) := ⟨ho7, by rw [List.length_append, HO.out.2.1]; rfl, by rw [colW_snoc hit, hR, hx, ← HO.out.2.2]⟩
      clear hc hr5 hm5 hrm hR hc6 hx ho7
      go_wp2_with fail
      go_roundw
      case rel => exact ⟨i + 1, a7, c7, _, by go_num, rfl, by omega, HO7.out⟩
      case measure => simp [intOf]; omega
    · have io : ¬ (i : Int) < (n : Int) := by omega
      have F : Hid (Po (.returned (.slice a' i c')) wi) := by
        show Po _ _
        rw [HPo.out]
        have e : t.take i = t := List.take_of_length_le (by rw [HL.out.1]; omega)
        have hz := HO.out.2.2
        rw [e] at hz
        exact ⟨a', c', by rw [← hz, HO.out.2.1], hz ▸ HO.out.1⟩
      go_wp2_with fail
      first | exact F.out | (go_ret; exact F.out)

theorem byW_snoc (V : List Int) (t : List (List Int)) (i : Nat) : ((List.range (i + 1)).map fun k => dotW V (colW t k)) = ((List.range i).map fun k => dotW V (colW t k)) ++ [dotW V (colW t i)] := by rw [List.range_succ, List.map_append]; rfl

attribute [local go_sem ↓] appY_fold in
set_option maxHeartbeats 3200000 in
set_option maxRecDepth 100000 in
theorem step_any (V : List Int) (t : List (List Int)) (a1 a2 : Option Addr) (n c1 c2 : Nat) (w : World) (hV : NumsAt w a1 V) (ht : RowsAt w a2 t) (e1 : V.length = n) (e2 : t.length = n) (hn : n ≤ 16) (hr : ∀ v, v ∈ V → RoomN v) (hs : ∀ r, r ∈ t → r.length = n ∧ InW r 9) :
    Calls Tryd.prog 27 #[.slice a1 n c1, .slice a2 n c2] w (NumsP (byW V t) w) := by
  have HCo : Hid (∀ W k, w.grownBy W none → k < n → Calls Tryd.prog 40 #[.slice a2 n c2, .int .i64 (k : Nat)] W (RowP1 (colW t k) W)) := fun W k hW hk => column_any t a2 n c2 k W (ht.grown hW) e2 (by omega) (fun r hr => by rw [(hs r hr).1]; exact hk) (fun r hr => by rw [(hs r hr).1]; omega)
  have HTo : Hid (∀ W a c k, w.grownBy W none → k < n → Ints W a (colW t k) → Calls Tryd.prog 28 #[.slice a1 n c1, .slice a n c] W (NumP (dotW V (colW t k)) W)) := fun W a c k hW hk hi => total_any V (colW t k) a1 a n c1 c W (hV.grown hW) hi e1 (by rw [colW_len, e2]) hn hr (colW_in (n := 0) (fun r hr => (hs r hr).2) (fun r hr => by rw [(hs r hr).1]; exact hk))
  have HCl : Hid (∀ k, (colW t k).length = n) := fun k => by rw [colW_len, e2]
  have HBy : Hid (byW V t = (List.range n).map fun k => dotW V (colW t k)) := by show _ = _; unfold byW; rw [e2]
  obtain ⟨Po, hPo⟩ : ∃ P, P = NumsP (byW V t) w := ⟨_, rfl⟩
  have HPo : Hid (Po = NumsP (byW V t) w) := hPo
  rw [← hPo]
  clear hV ht e1 e2 hr hs hPo
  go_enter Tryd.func27, Tryd.ntmps27
  go_wp2_with fail
  go_loopw [9, 5] (fun p q W => ∃ (i : Nat) (a : Option Addr) (c : Nat) (U : List Int), p = .int .i64 i ∧ q = .slice a i c ∧ i ≤ n ∧ OwnNu w W a c U ∧ U.length = i ∧ U = (List.range i).map fun k => dotW V (colW t k)) (fun p _ _ => n - (intOf p).toNat)
  case atStart => exact ⟨0, none, 0, [], rfl, rfl, Nat.zero_le _, OwnNu.nil (grown_refl _ _), rfl, rfl⟩
  case round =>
    obtain ⟨wi, hwi⟩ : ∃ W, W = wr := ⟨_, rfl⟩
    subst hwi
    obtain ⟨i, a', c', U, rfl, rfl, hi, ho, hl, hz⟩ := hrel
    have HO : Hid (OwnNu w wi a' c' U ∧ U.length = i ∧ U = (List.range i).map fun k => dotW V (colW t k)) := ⟨ho, hl, hz⟩
    clear ho hl hz
    by_cases hlt : i < n
    · have io : (i : Int) < (n : Int) := by omega
      have HC1 : Hid (Calls Tryd.prog 40 #[.slice a2 n c2, .int .i64 (i : Nat)] wi (RowP1 (colW t i) wi)) := HCo.out wi i HO.out.1.gr hlt
      go_wp2_with fail
      refine HC1.out.mono ?_
      rintro E w3 ⟨a3, c3, rfl, ho3⟩
      have hl3 := HCl.out i
      have HC2 : Hid (Calls Tryd.prog 28 #[.slice a1 n c1, .slice a3 n c3] w3 (NumP (dotW V (colW t i)) w3)) := HTo.out w3 a3 c3 i (grown_trans HO.out.1.gr ho3.gr) hlt ho3.ints
      have G3 : Hid (wi.grownBy w3 none) := ho3.gr
      rw [hl3]
      clear ho3 hl3 HC1
      go_wp2_with fail
      refine HC2.out.mono ?_
      rintro E w4 ⟨rfl, hg4⟩
      obtain ⟨x, hx⟩ : ∃ x, dotW V (colW t i) = x := ⟨_, rfl⟩
      rw [hx]
      have HO4 := HO.out.1.grown (grown_trans G3.out hg4)
      obtain ⟨a7, c7, w7, hrun, ho7⟩ := HO4.one HO.out.2.1 (by omega) x
      have HO7 : Hid (OwnNu w w7 a7 c7 (U ++ [x]) ∧ (U ++ [x]).length = i + 1 ∧ U ++ [x] = (List.range (i + 1)).map fun k => dotW V (colW t k)) := ⟨ho7, by rw [List.length_append, HO.out.2.1]; rfl, by rw [byW_snoc, hx, ← HO.out.2.2]⟩
      clear hg4 hx HO4 ho7 HC2
      go_wp2_with fail
      go_roundw
      case rel => exact ⟨i + 1, a7, c7, _, by go_num, rfl, by omega, HO7.out⟩
      case measure => simp [intOf]; omega
    · have io : ¬ (i : Int) < (n : Int) := by omega
      have F : Hid (Po (.returned (.slice a' i c')) wi) := by
        show Po _ _
        rw [HPo.out]
        have ei : i = n := by omega
        have hz := HO.out.2.2
        rw [ei, ← HBy.out] at hz
        exact ⟨a', c', by rw [← hz, HO.out.2.1], hz ▸ HO.out.1.nums, HO.out.1.gr⟩
      go_wp2_with fail
      first | exact F.out | (go_ret; exact F.out)
end Go.Proofs.YtjinibofbpgfjaaDoor
