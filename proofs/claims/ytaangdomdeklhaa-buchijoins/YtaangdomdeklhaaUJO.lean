/- The order of steps, and how far its worlds are: so that slices.SortFunc takes it. -/
/- slices.SortFunc of steps, by the order of an automaton. -/
/- What both at once is made in: a box of an automaton of one's own, and its rows. -/
/- The order of what is made, in new boxes; the sort of its row of steps, which may be nil. -/
import Derived.Test.YtaangdomdeklhaaUCheck
import Derived.Test.YtaangdomdeklhaaShelf
import Derived.Sort.OwnSortedInts
import Derived.Test.YtaangdomdeklhaaUJM
import Derived.Test.YtaangdomdeklhaaUJB
import Derived.Test.YtaangdomdeklhaaUFinal
import Derived.Test.YtaangdomdeklhaaUCheck2
import Derived.Shelf.SlSortCmp.NoneTotal
namespace Go.Proofs.Ytaangdomdeklhaa
open Go.RowKit Go.Sort
set_option linter.unusedVariables false

/-- Some draws on, some blocks more. -/
def Ex (w w' : World) : Prop := ∃ q os, w' = grow (w.drewN q) os
theorem Ex.refl (w : World) : Ex w w := ⟨0, #[], by rw [grow_empty]; rfl⟩
theorem Ex.alloc (w : World) (o : Obj) : Ex w (w.alloc o) := ⟨0, #[o], by rw [alloc_eq_grow]; rfl⟩
theorem Ex.drew (w : World) : Ex w w.drew := ⟨1, #[], by rw [grow_empty]; rfl⟩
theorem Ex.trans {a b c : World} (h : Ex a b) (h' : Ex b c) : Ex a c := by
  obtain ⟨q, os, rfl⟩ := h
  obtain ⟨q', os', rfl⟩ := h'
  exact ⟨q + q', os ++ os', by show grow (grow ((a.drewN q).drewN q') os) os' = _; rw [grow_grow, World.drewN_drewN]⟩
theorem Ex.gr {a b : World} (h : Ex a b) : a.grownBy b none := by
  obtain ⟨q, os, rfl⟩ := h
  refine ⟨rfl, rfl, rfl, by simp [grow, World.drewN], fun k hk _ => ?_⟩
  rw [heap_grow_old _ _ (by simpa [World.drewN] using hk)]
  simp [World.drewN]
def SaysX (v : Value) (w : World) (e : Ending) (w' : World) : Prop := e = .returned v ∧ Ex w w'

set_option maxHeartbeats 800000 in
theorem numberX_any (f l t L N : Int) (ba : Nat) (w : World) (h0 : w.cell? ⟨ba, 0, none⟩ = some (.int .i64 L)) (h1 : w.cell? ⟨ba, 1, none⟩ = some (.int .i64 N)) (hl : L ≤ 4) (hl1 : 1 ≤ L) (hn1 : 1 ≤ N) (hn : N ≤ 300) (h : StIn L N (f, l, t)) :
    Calls Try.prog 56 #[.agg #[.int .i64 f, .int .i64 l, .int .i64 t], .pointer (some ⟨ba, 0, none⟩)] w (SaysX (.int .i64 (numS L N (f, l, t))) w) := by
  obtain ⟨r1, r2, r3, r4, r5, r6⟩ := numS_range hl hl1 hn1 hn h
  simp only [numS] at r1 r2 r3 r4 r5 r6 ⊢
  have c0 : ∀ o, (w.alloc o).cell? ⟨ba, 0, none⟩ = some (.int .i64 L) := fun o => (grown_alloc w o).cell h0 (by simp)
  have c1 : ∀ o, (w.alloc o).cell? ⟨ba, 1, none⟩ = some (.int .i64 N) := fun o => (grown_alloc w o).cell h1 (by simp)
  have hb : 0 ≤ l ∧ l < L := h.2.2
  have G : Hid (∀ o, Ex w (w.alloc o)) := fun o => Ex.alloc w o
  have w1 : IntKind.i64.wrap (f * L) = f * L := by rw [IntKind.wrap_i64]; omega
  have w2 : IntKind.i64.wrap (f * L + l) = f * L + l := by rw [IntKind.wrap_i64]; omega
  have w3 : IntKind.i64.wrap ((f * L + l) * N) = (f * L + l) * N := by rw [IntKind.wrap_i64]; omega
  have w4 : IntKind.i64.wrap ((f * L + l) * N + t) = (f * L + l) * N + t := by rw [IntKind.wrap_i64]; omega
  clear h r1 r2 r3 r4 r5 r6 h0 h1
  go_enter Try.func56, Try.ntmps56
  go_wp2_with fail
  go_ret
  exact ⟨rfl, G.out _⟩

/-- The two steps' boxes and the closure stay. -/
abbrev KeepX (P W : World) (b bn ba : Nat) (f l t f' l' t' : Int) : Prop :=
  Ex P W ∧ W.cell? ⟨b, 0, none⟩ = some (.int .i64 f) ∧ W.cell? ⟨b, 1, none⟩ = some (.int .i64 l) ∧ W.cell? ⟨b, 2, none⟩ = some (.int .i64 t) ∧
      W.cell? ⟨b + 1, 0, none⟩ = some (.int .i64 f') ∧ W.cell? ⟨b + 1, 1, none⟩ = some (.int .i64 l') ∧ W.cell? ⟨b + 1, 2, none⟩ = some (.int .i64 t') ∧ W.cell? ⟨bn, 0, none⟩ = some (.func (.func 56) #[] #[.pointer (some ⟨ba, 0, none⟩)])
section
variable {P W W' : World} {b bn ba : Nat} {f l t f' l' t' : Int}
theorem KeepX.call (h : KeepX P W b bn ba f l t f' l' t') (hg' : Ex W W') : KeepX P W' b bn ba f l t f' l' t' := by
  obtain ⟨h0, h1, h2, h3, h4, h5, h6, h7⟩ := h
  have hg := hg'.gr
  exact ⟨h0.trans hg', hg.cell h1 (by simp), hg.cell h2 (by simp), hg.cell h3 (by simp), hg.cell h4 (by simp), hg.cell h5 (by simp), hg.cell h6 (by simp), hg.cell h7 (by simp)⟩
theorem KeepX.drew (h : KeepX P W b bn ba f l t f' l' t') : KeepX P W.drew b bn ba f l t f' l' t' := h.call (Ex.drew _)
theorem KeepX.gr {w : World} (h : KeepX P W b bn ba f l t f' l' t') (hw : Ex w P) : Ex w W := hw.trans h.1
end

set_option maxHeartbeats 1600000 in
set_option maxRecDepth 100000 in
theorem order2X_any (x y : StepI) (L N : Int) (bn ba : Nat) (w : World) (h : OrdAt w bn ba L N) (hl : L ≤ 4) (hl1 : 1 ≤ L) (hn1 : 1 ≤ N) (hn : N ≤ 300) (hx : StIn L N x) (hy : StIn L N y) :
    Calls Try.prog 57 #[stepV x, stepV y, .pointer (some ⟨bn, 0, none⟩)] w (SaysX (.int .i64 (cmpF (numS L N x) (numS L N y))) w) := by
  obtain ⟨f, l, t⟩ := x
  obtain ⟨f', l', t'⟩ := y
  simp only [stepV]
  obtain ⟨W1, hW1⟩ : ∃ W1, W1 = w.alloc (.cells #[.int .i64 f, .int .i64 l, .int .i64 t] 53) := ⟨_, rfl⟩
  obtain ⟨W2, hW2⟩ : ∃ W2, W2 = W1.alloc (.cells #[.int .i64 f', .int .i64 l', .int .i64 t'] 53) := ⟨_, rfl⟩
  have HW2 : Hid (W2 = (w.alloc (.cells #[.int .i64 f, .int .i64 l, .int .i64 t] 53)).alloc (.cells #[.int .i64 f', .int .i64 l', .int .i64 t'] 53)) := by show _ = _; rw [hW2, hW1]
  have G2 : Hid (Ex w W2) := by rw [hW2, hW1]; exact (Ex.alloc _ _).trans (Ex.alloc _ _)
  have Bx : Hid (∀ W, W2.grownBy W none → W.cell? ⟨w.heap.size, 0, none⟩ = some (.int .i64 f) ∧ W.cell? ⟨w.heap.size, 1, none⟩ = some (.int .i64 l) ∧ W.cell? ⟨w.heap.size, 2, none⟩ = some (.int .i64 t) ∧
      W.cell? ⟨w.heap.size + 1, 0, none⟩ = some (.int .i64 f') ∧ W.cell? ⟨w.heap.size + 1, 1, none⟩ = some (.int .i64 l') ∧ W.cell? ⟨w.heap.size + 1, 2, none⟩ = some (.int .i64 t') ∧ W.cell? ⟨bn, 0, none⟩ = some (.func (.func 56) #[] #[.pointer (some ⟨ba, 0, none⟩)])) := fun W hW => by
    have h1 := heap_alloc_new w (.cells #[.int .i64 f, .int .i64 l, .int .i64 t] 53)
    have h2 := heap_alloc_new W1 (.cells #[.int .i64 f', .int .i64 l', .int .i64 t'] 53)
    rw [← hW1] at h1
    rw [← hW2, hW1, World.size_alloc] at h2
    have g12 : W1.grownBy W none := grown_trans (by rw [hW2]; exact grown_alloc _ _) hW
    have hc : ∀ k v, #[Value.int .i64 f, .int .i64 l, .int .i64 t][k]? = some v → W.cell? ⟨w.heap.size, k, none⟩ = some v := fun k v hv => g12.cell (by rw [cell_of_row _ _ k _ _ (0, 0) h1]; exact hv) (by simp)
    have hd : ∀ k v, #[Value.int .i64 f', .int .i64 l', .int .i64 t'][k]? = some v → W.cell? ⟨w.heap.size + 1, k, none⟩ = some v := fun k v hv => hW.cell (by rw [cell_of_row _ _ k _ _ (0, 0) h2]; exact hv) (by simp)
    exact ⟨hc 0 _ rfl, hc 1 _ rfl, hc 2 _ rfl, hd 0 _ rfl, hd 1 _ rfl, hd 2 _ rfl, (grown_trans G2.out.gr hW).cell h.fn (by simp)⟩
  obtain ⟨p, hp⟩ : ∃ p, numS L N (f, l, t) = p := ⟨_, rfl⟩
  obtain ⟨q, hq⟩ : ∃ q, numS L N (f', l', t') = q := ⟨_, rfl⟩
  rw [hp, hq]
  have HP : Hid (∀ W, Ex w W → Calls Try.prog 56 #[.agg #[.int .i64 f, .int .i64 l, .int .i64 t], .pointer (some ⟨ba, 0, none⟩)] W (SaysX (.int .i64 p) W)) := fun W hW => hp ▸ numberX_any f l t L N ba W (h.grown hW.gr).l (h.grown hW.gr).n hl hl1 hn1 hn hx
  have HQ : Hid (∀ W, Ex w W → Calls Try.prog 56 #[.agg #[.int .i64 f', .int .i64 l', .int .i64 t'], .pointer (some ⟨ba, 0, none⟩)] W (SaysX (.int .i64 q) W)) := fun W hW => hq ▸ numberX_any f' l' t' L N ba W (h.grown hW.gr).l (h.grown hW.gr).n hl hl1 hn1 hn hy
  have HC : Hid (∀ W, Calls Try.prog 37 #[.int .i64 p, .int .i64 q] W fun e w' => e = .returned (.int .i64 (cmpF p q)) ∧ w' = W) := fun W => compare_any p q W
  generalize cmpF p q = z at HC ⊢
  clear h hW1 hW2 hp hq hx hy
  have K0 : Hid (KeepX W2 W2 w.heap.size bn ba f l t f' l' t') := by
    obtain ⟨x0, x1, x2, y0, y1, y2, fn⟩ := Bx.out W2 (grown_refl _ _)
    exact ⟨Ex.refl _, x0, x1, x2, y0, y1, y2, fn⟩
  clear Bx
  go_enter Try.func57, Try.ntmps57
  go_wp2_with fail
  rw [← HW2.out]
  clear HW2
  generalize w.heap.size = b0 at *
  go_region_held3 (fun W => KeepX W2 W b0 bn ba f l t f' l' t')
    (first | (with_reducible exact KeepX.drew K0.out) | (with_reducible exact KeepX.call (by assumption) hgA) | (with_reducible exact KeepX.call (by assumption) hgB) | (with_reducible exact KeepX.drew (by assumption)) | assumption)
    (first
    | (go_at_call_of 56 (Value.agg #[.int .i64 f, .int .i64 l, .int .i64 t]); refine (HP.out _ (KeepX.gr (show KeepX W2 _ b0 bn ba f l t f' l' t' from by assumption) G2.out)).mono ?_; rintro e wA ⟨rfl, hgA⟩)
    | (go_at_call_of 56 (Value.agg #[.int .i64 f', .int .i64 l', .int .i64 t']); refine (HQ.out _ (KeepX.gr (show KeepX W2 _ b0 bn ba f l t f' l' t' from by assumption) G2.out)).mono ?_; rintro e wB ⟨rfl, hgB⟩)
    | (go_at_call 37; refine (HC.out _).mono ?_; rintro e w5 ⟨rfl, rfl⟩))
  all_goals
    have GF : Hid (Ex w w5) := KeepX.gr (show KeepX W2 _ b0 bn ba f l t f' l' t' from by assumption) G2.out
    go_wp2_with fail
    go_ret
    exact ⟨rfl, GF.out⟩

end Go.Proofs.Ytaangdomdeklhaa

namespace Go.Proofs.Ytaangdomdeklhaa
open Go.RowKit Go.Sort Go.Shelf
set_option linter.unusedVariables false

/-- A step that is one of an automaton's. -/
abbrev StepOf (L N : Int) := {x : StepI // StIn L N x}
def encS {L N : Int} (x : StepOf L N) : List Value := [.int .i64 x.1.1, .int .i64 x.1.2.1, .int .i64 x.1.2.2]
def cfS {L N : Int} (x y : StepOf L N) : Int := cmpF (numS L N x.1) (numS L N y.1)
theorem cmpF_lt (x y : Int) : cmpF x y < 0 ↔ x < y := by unfold cmpF; split <;> (try split) <;> omega
theorem ltS {L N : Int} (x y : StepOf L N) : ltOf cfS x y = decide (numS L N x.1 < numS L N y.1) := by
  unfold ltOf cfS
  exact decide_eq_decide.2 (cmpF_lt _ _)
theorem swoS {L N : Int} : SWO (ltOf (cfS (L := L) (N := N))) where
  irrefl x := by rw [ltS]; simp
  trans x y z h1 h2 := by rw [ltS] at *; simp at *; omega
  ntrans x y z h1 h2 := by rw [ltS] at *; simp at *; omega
def asOf {L N : Int} (T : List StepI) (h : ∀ t, t ∈ T → StIn L N t) : Array (StepOf L N) := (T.pmap (fun x h => ⟨x, h⟩) h).toArray
theorem asOf_size {L N : Int} (T : List StepI) (h : ∀ t, t ∈ T → StIn L N t) : (asOf T h).size = T.length := by simp [asOf]
theorem grown_sortK {α : Type} [Inhabited α] (enc : α → List Value) {w : World} {g n : Nat} {os : Array Obj} (d : Array α) : w.grownBy (sortWorldK enc 3 w g 0 n d os) (some g) := by
  unfold sortWorldK putRowK
  refine ⟨rfl, rfl, rfl, by simp [grow, putRow, mapBlock, Sort.ahead], fun k hk hne => ?_⟩
  rw [heap_grow_old _ _ (by simpa [putRow, mapBlock, Sort.ahead] using hk)]
  have : g ≠ k := fun e => hne (by rw [e])
  simp [putRow, mapBlock, Sort.ahead, Array.getElem?_modify, this]

/-- What the sort leaves. -/
def SortP (L N : Int) (g : Nat) (T : List StepI) (w : World) (e : Ending) (w' : World) : Prop := e = .returned (.tuple #[]) ∧ ∃ T' : List StepI, T'.Perm T ∧ (T'.Pairwise fun p q => ¬ numS L N q < numS L N p) ∧ StepsAt w' (some ⟨g, 0, none⟩) T' ∧ w.grownBy w' (some g)

set_option maxRecDepth 100000 in
set_option maxHeartbeats 1600000 in
theorem sort_any (L N : Int) (hl : L ≤ 4) (hl1 : 1 ≤ L) (hn1 : 1 ≤ N) (hn : N ≤ 300) (T : List StepI) (hT : ∀ t, t ∈ T → StIn L N t) (hTl : T.length ≤ 1000000) (g cap bn ba : Nat) (w : World)
    (hc : ∀ i, i < T.length → w.cell? ⟨g, i * 3, none⟩ = some (.int .i64 (T.getD i (0, 0, 0)).1) ∧ w.cell? ⟨g, i * 3 + 1, none⟩ = some (.int .i64 (T.getD i (0, 0, 0)).2.1) ∧ w.cell? ⟨g, i * 3 + 2, none⟩ = some (.int .i64 (T.getD i (0, 0, 0)).2.2))
    (hf : ∀ k, w.frozen? ⟨g, k, none⟩ = false) (hg : g < w.heap.size) (hO : OrdAt w bn ba L N) (h1 : bn ≠ g) (h2 : ba ≠ g) :
    Calls Try.prog 54 #[.slice (some ⟨g, 0, none⟩) T.length cap, .func (.func 57) #[] #[.pointer (some ⟨bn, 0, none⟩)]] w (SortP L N g T w) := by
  haveI : Inhabited (StepOf L N) := ⟨⟨(0, 0, 0), show ((0 : Int) ≤ 0 ∧ (0 : Int) < N) ∧ ((0 : Int) ≤ 0 ∧ (0 : Int) < N) ∧ ((0 : Int) ≤ 0 ∧ (0 : Int) < L) from by omega⟩⟩
  obtain ⟨d, hd⟩ : ∃ d, asOf T hT = d := ⟨_, rfl⟩
  have hsz : d.size = T.length := by rw [← hd]; exact asOf_size T hT
  have hget : ∀ i, i < T.length → (d[i]!).1 = T.getD i (0, 0, 0) := fun i hi => by
    rw [← hd, getElem!_pos _ i (by rw [asOf_size]; exact hi)]
    simp [asOf, List.getD, hi]
  have lt_of : ∀ a : Addr, ∀ v, w.cell? a = some v → a.block < w.heap.size := fun a v hv => by
    unfold World.cell? at hv
    rcases Nat.lt_or_ge a.block w.heap.size with h | h
    · exact h
    · rw [Array.getElem?_eq_none h] at hv; cases hv
  have eg : ∀ args w, (callFunc 57 args).run Try.prog w = .ok (.enter 57 args) w := enters_of Try.func57 (by kernel_rfl) rfl
  have hcmp : CmpLays Try.prog 57 #[.pointer (some ⟨bn, 0, none⟩)] (encS (L := L) (N := N)) 3 cfS g 0 d.size w := fun m os dk hs x y => by
    have o : OrdAt (sortWorldK encS 3 w g 0 m dk os) bn ba L N := ⟨(cell?_sortWorldK_other _ _ _ _ _ _ _ _ _ h1 (lt_of _ _ hO.fn)).trans hO.fn, (cell?_sortWorldK_other _ _ _ _ _ _ _ _ _ h2 (lt_of _ _ hO.l)).trans hO.l, (cell?_sortWorldK_other _ _ _ _ _ _ _ _ _ h2 (lt_of _ _ hO.n)).trans hO.n⟩
    exact order2X_any x.1 y.1 L N bn ba _ o hl hl1 hn1 hn x.2 y.2
  have flat : ∀ (W : World) (e : Array (StepOf L N)) (t : Nat), t < e.size * 3 → ∃ i r, r < 3 ∧ t = i * 3 + r ∧ i < e.size ∧ (flatK encS 3 e)[t]! = (encS e[i]!)[r]! := fun W e t ht => by
    refine ⟨t / 3, t % 3, Nat.mod_lt _ (by decide), by omega, by omega, ?_⟩
    rw [get_flatK _ _ _ _ ht]
  have hH : HoldsK encS 3 w g 0 d := fun t ht => by
    rw [size_flatK] at ht
    obtain ⟨i, r, hr, rfl, hi, he⟩ := flat w d t ht
    obtain ⟨c0, c1, c2⟩ := hc i (by omega)
    rw [Nat.zero_add]
    refine ⟨?_, hf _⟩
    rw [he]
    have e1 := hget i (by omega)
    have : r = 0 ∨ r = 1 ∨ r = 2 := by omega
    rcases this with rfl | rfl | rfl
    · rw [Nat.add_zero, c0, ← e1]; rfl
    · rw [c1, ← e1]; rfl
    · rw [c2, ← e1]; rfl
  have hcon := AnyQ.slices_SortFunc Try.laysSort 3 Try.isAgg53 Try.sizeOf53 (encS (L := L) (N := N)) (fun _ => rfl) (fun x v hv => by simp [encS] at hv; rcases hv with rfl | rfl | rfl <;> rfl) cfS swoS 57 #[.pointer (some ⟨bn, 0, none⟩)] g 0 cap d w eg hcmp hH hg (by omega)
  rw [hsz] at hcon
  refine Calls.mono hcon ?_
  rintro E w' ⟨rfl, d', n, os, hp, hs, rfl⟩
  have hsz' : d'.size = d.size := by have := hp.1; omega
  refine ⟨rfl, d'.toList.map Subtype.val, ?_, ?_, ?_, grown_sortK _ _⟩
  · have h3 := hp.2.2
    have e1 : d'.extract 0 T.length = d' := by rw [← hsz, ← hsz']; exact Array.extract_size
    have e2 : d.extract 0 T.length = d := by rw [← hsz]; exact Array.extract_size
    rw [e1, e2] at h3
    have h4 := h3.map Subtype.val
    have e3 : d.toList.map Subtype.val = T := by rw [← hd]; simp [asOf, List.map_pmap]
    rw [e3] at h4
    exact h4
  · rw [List.pairwise_map, List.pairwise_iff_getElem]
    intro i j hi hj hij
    have h3 := hs i j (Nat.zero_le _) hij (by rw [Array.length_toList] at hj; omega)
    rw [ltS] at h3
    have hi' : i < d'.size := by rwa [Array.length_toList] at hi
    have hj' : j < d'.size := by rwa [Array.length_toList] at hj
    rw [getElem!_pos d' i hi', getElem!_pos d' j hj'] at h3
    simpa using h3
  · have hH' := holdsK_sortWorldK_c encS 3 w g 0 d d' n os hH hg hsz'
    refine .inr ⟨g, 0, rfl, fun i hi => ?_⟩
    rw [List.length_map, Array.length_toList] at hi
    have hv : (d'.toList.map Subtype.val).getD i (0, 0, 0) = (d'[i]!).1 := by
      rw [getElem!_pos d' i hi]
      simp [List.getD, hi]
    rw [hv]
    have key : ∀ r, r < 3 → (sortWorldK encS 3 w g 0 n d' os).cell? ⟨g, 0 + (i * 3 + r), none⟩ = some ((encS d'[i]!)[r]!) := fun r hr => by
      have h3 := (hH' (i * 3 + r) (by rw [size_flatK]; omega)).1
      rw [h3, get_flatK _ _ _ _ (by omega)]
      have q1 : (i * 3 + r) / 3 = i := by omega
      have q2 : (i * 3 + r) % 3 = r := by omega
      rw [q1, q2]
      rfl
    exact ⟨key 0 (by omega), key 1 (by omega), key 2 (by omega)⟩

end Go.Proofs.Ytaangdomdeklhaa

namespace Go.Proofs.Ytaangdomdeklhaa
open Go.RowKit
set_option linter.unusedVariables false

/-- The made so far: its box k3, its rows behind it, other rows r; what lay below is as it was. -/
structure StJ (W3 : World) (k3 : Nat) (L N : Int) (W : World) (vS vT vF : Value) (zs : List Int) (T : List StepI) (zf : List Int) (r : List ItemG) : Prop where
  gr : W3.grownBy W none
  size : W3.heap.size = k3
  lt : k3 < W.heap.size
  box : W.heap[k3]? = some (.cells #[.int .i64 L, .int .i64 N, vS, vT, vF] 25 (0, 0))
  own : OwnsG (k3 + 1) W (⟨3, 1, vS, zs.length, vals zs⟩ :: ⟨53, 3, vT, T.length, flatT T⟩ :: ⟨3, 1, vF, zf.length, vals zf⟩ :: r)
theorem OwnsG.old {B : Nat} {w w' : World} {x : ItemG} {r : List ItemG} (h : OwnsG B w (x :: r)) {b : Nat} (hb : b < B) (hlt : b < w.heap.size) (hg : w.grownBy w' x.v.ownBlock) : w'.heap[b]? = w.heap[b]? := by
  refine hg.block b hlt fun e => ?_
  have := (h.head.1.lt b e.symm).1
  omega
theorem OwnsG.far {B : Nat} {w w' : World} {its : List ItemG} {b : Nat} (h : OwnsG B w its) (hg : w.grownBy w' (some b)) (hb : b < B) : OwnsG B w' its :=
  ⟨fun it hm => ⟨(h.1 it hm).1.kept hg (by
    cases hv : it.v.ownBlock with
    | none => exact .inl rfl
    | some g => have := ((h.1 it hm).1.lt g hv).1; exact .inr (by simp; omega)), (h.1 it hm).2⟩, h.2⟩
section
variable {W3 : World} {k3 : Nat} {L N : Int} {W : World} {vS vT vF : Value} {zs zf : List Int} {T : List StepI} {r : List ItemG}
theorem StJ.kept {W' : World} (h : StJ W3 k3 L N W vS vT vF zs T zf r) (hg : W.grownBy W' none) : StJ W3 k3 L N W' vS vT vF zs T zf r :=
  ⟨grown_trans h.gr hg, h.size, Nat.lt_of_lt_of_le h.lt hg.size, (hg.block _ h.lt (by simp)).trans h.box, h.own.kept hg⟩
theorem StJ.addS (h : StJ W3 k3 L N W vS vT vF zs T zf r) (hn : zs.length ≤ 1000000) (x : Int) :
    ∃ a c g cap w', vS = .slice a zs.length c ∧ (AppS #[22, 22] 22 #[.slice a zs.length c, .slice (some ⟨W.heap.size, 0, none⟩) 1 1]).run Try.prog (W.alloc (.cells #[.int .i64 x] 3)) = .ok (.slice (some ⟨g, 0, none⟩) (zs.length + 1) cap) w' ∧ w'.cell? ⟨k3, 2, none⟩ = some (.slice a zs.length c) ∧ w'.frozen? ⟨k3, 2, none⟩ = false ∧ StJ W3 k3 L N (w'.setCell ⟨k3, 2, none⟩ (.slice (some ⟨g, 0, none⟩) (zs.length + 1) cap)) (.slice (some ⟨g, 0, none⟩) (zs.length + 1) cap) vT vF (zs ++ [x]) T zf r := by
  obtain ⟨a, c, hv, _⟩ := h.own.ints
  subst hv
  obtain ⟨g, cap, w', hr, ho, hk, hg⟩ := h.own.push1 h.lt hn x rfl
  have hbx : w'.heap[k3]? = some (.cells #[.int .i64 L, .int .i64 N, .slice a zs.length c, vT, vF] 25 (0, 0)) := ((h.own.kept (grown_alloc W _)).old (Nat.lt_succ_self k3) (Nat.lt_of_lt_of_le h.lt (grown_alloc W _).size) hg).trans (((grown_alloc W _).block _ h.lt (by simp)).trans h.box)
  obtain ⟨_, _, c2, _, _, fz⟩ := block_cells5A hbx
  have hlt : k3 < w'.heap.size := (Array.getElem?_eq_some_iff.1 hbx).1
  refine ⟨a, c, g, cap, w', rfl, hr, c2, fz 2, grown_new (hk W3 (by have := h.size; omega) h.gr) (grown_set _ _ _) (Nat.le_of_eq h.size), h.size, by simpa [World.setCell] using hlt, ?_, ho.far (grown_set w' ⟨k3, 2, none⟩ _) (Nat.lt_succ_self _)⟩
  rw [heap_setCell_same w' k3 2 _ _ _ hbx]
  rfl
theorem StJ.addF (h : StJ W3 k3 L N W vS vT vF zs T zf r) (hn : zf.length ≤ 1000000) (x : Int) :
    ∃ a c g cap w', vF = .slice a zf.length c ∧ (AppS #[22, 22] 22 #[.slice a zf.length c, .slice (some ⟨W.heap.size, 0, none⟩) 1 1]).run Try.prog (W.alloc (.cells #[.int .i64 x] 3)) = .ok (.slice (some ⟨g, 0, none⟩) (zf.length + 1) cap) w' ∧ w'.cell? ⟨k3, 4, none⟩ = some (.slice a zf.length c) ∧ w'.frozen? ⟨k3, 4, none⟩ = false ∧ StJ W3 k3 L N (w'.setCell ⟨k3, 4, none⟩ (.slice (some ⟨g, 0, none⟩) (zf.length + 1) cap)) vS vT (.slice (some ⟨g, 0, none⟩) (zf.length + 1) cap) zs T (zf ++ [x]) r := by
  have own := h.own.perm (((List.Perm.swap _ _ _).cons _).trans (List.Perm.swap _ _ _))
  obtain ⟨a, c, hv, _⟩ := own.ints
  subst hv
  obtain ⟨g, cap, w', hr, ho, hk, hg⟩ := own.push1 h.lt hn x rfl
  have hbx : w'.heap[k3]? = some (.cells #[.int .i64 L, .int .i64 N, vS, vT, .slice a zf.length c] 25 (0, 0)) := ((own.kept (grown_alloc W _)).old (Nat.lt_succ_self k3) (Nat.lt_of_lt_of_le h.lt (grown_alloc W _).size) hg).trans (((grown_alloc W _).block _ h.lt (by simp)).trans h.box)
  obtain ⟨_, _, _, _, c4, fz⟩ := block_cells5A hbx
  have hlt : k3 < w'.heap.size := (Array.getElem?_eq_some_iff.1 hbx).1
  refine ⟨a, c, g, cap, w', rfl, hr, c4, fz 4, grown_new (hk W3 (by have := h.size; omega) h.gr) (grown_set _ _ _) (Nat.le_of_eq h.size), h.size, by simpa [World.setCell] using hlt, ?_, ?_⟩
  · rw [heap_setCell_same w' k3 4 _ _ _ hbx]
    rfl
  · exact (ho.far (grown_set w' ⟨k3, 4, none⟩ _) (Nat.lt_succ_self _)).perm ((List.Perm.swap _ _ _).trans ((List.Perm.swap _ _ _).cons _))
theorem StJ.addT (h : StJ W3 k3 L N W vS vT vF zs T zf r) (hn : T.length ≤ 1000000) (x : StepI) :
    ∃ a c g cap w', vT = .slice a T.length c ∧ (AppS #[23, 23] 23 #[.slice a T.length c, .slice (some ⟨W.heap.size, 0, none⟩) 1 1]).run Try.prog (W.alloc (.cells #[.int .i64 x.1, .int .i64 x.2.1, .int .i64 x.2.2] 53)) = .ok (.slice (some ⟨g, 0, none⟩) (T.length + 1) cap) w' ∧ w'.cell? ⟨k3, 3, none⟩ = some (.slice a T.length c) ∧ w'.frozen? ⟨k3, 3, none⟩ = false ∧ StJ W3 k3 L N (w'.setCell ⟨k3, 3, none⟩ (.slice (some ⟨g, 0, none⟩) (T.length + 1) cap)) vS (.slice (some ⟨g, 0, none⟩) (T.length + 1) cap) vF zs (T ++ [x]) zf r ∧ ∀ it, it ∈ r → OwnsGI (k3 + 1) w' it := by
  have own := h.own.perm (List.Perm.swap _ _ _)
  obtain ⟨a, c, hv, _⟩ := own.steps
  subst hv
  obtain ⟨g, cap, w', hr, ho, hk, hg⟩ := own.pushS h.lt hn x rfl
  have hbx : w'.heap[k3]? = some (.cells #[.int .i64 L, .int .i64 N, vS, .slice a T.length c, vF] 25 (0, 0)) := ((own.kept (grown_alloc W _)).old (Nat.lt_succ_self k3) (Nat.lt_of_lt_of_le h.lt (grown_alloc W _).size) hg).trans (((grown_alloc W _).block _ h.lt (by simp)).trans h.box)
  obtain ⟨_, _, _, c3, _, fz⟩ := block_cells5A hbx
  have hlt : k3 < w'.heap.size := (Array.getElem?_eq_some_iff.1 hbx).1
  refine ⟨a, c, g, cap, w', rfl, hr, c3, fz 3, ⟨grown_new (hk W3 (by have := h.size; omega) h.gr) (grown_set _ _ _) (Nat.le_of_eq h.size), h.size, by simpa [World.setCell] using hlt, ?_, ?_⟩, fun it hm => ho.1 it (by simp [hm])⟩
  · rw [heap_setCell_same w' k3 3 _ _ _ hbx]
    rfl
  · exact (ho.far (grown_set w' ⟨k3, 3, none⟩ _) (Nat.lt_succ_self _)).perm (List.Perm.swap _ _ _)
/-- Another row of one's own comes to it. -/
theorem StJ.more {W' : World} {it : ItemG} (h : StJ W3 k3 L N W vS vT vF zs T zf r) (hg : W.grownBy W' none) (hi : OwnsGI W.heap.size W' it) : StJ W3 k3 L N W' vS vT vF zs T zf (it :: r) := by
  have h' := h.kept hg
  refine ⟨h'.gr, h'.size, h'.lt, h'.box, ?_⟩
  have hb : OwnsGI (k3 + 1) W' it := by
    obtain ⟨⟨e1, e2⟩, e3⟩ := hi
    refine ⟨⟨e1, ?_⟩, e3⟩
    rcases e2 with e2 | ⟨g, cap, cur, q1, q2, q3⟩
    · exact .inl e2
    · exact .inr ⟨g, cap, cur, q1, Nat.le_trans h.lt q2, q3⟩
  have h0 : OwnsG (k3 + 1) W (⟨it.e, it.sz, .slice none 0 0, 0, []⟩ :: _) := h.own.empty it.e it.sz
  have h1 := h0.turn hb hg (by
    cases hv : it.v.ownBlock with
    | none => exact .inl rfl
    | some g => exact .inr ⟨g, rfl, (hi.1.lt g hv).1⟩)
  exact h1.perm ((List.Perm.swap _ _ _).trans (((List.Perm.swap _ _ _).cons _).trans (((List.Perm.swap _ _ _).cons _).cons _)))
theorem StJ.less {it : ItemG} (h : StJ W3 k3 L N W vS vT vF zs T zf (it :: r)) : StJ W3 k3 L N W vS vT vF zs T zf r :=
  ⟨h.gr, h.size, h.lt, h.box, (h.own.perm ((((List.Perm.swap _ _ _).cons _).cons _).trans (((List.Perm.swap _ _ _).cons _).trans (List.Perm.swap _ _ _)))).tail⟩
/-- What lies in another row. -/
theorem StJ.cell {it : ItemG} (h : StJ W3 k3 L N W vS vT vF zs T zf r) (hm : it ∈ r) {g n cap i : Nat} {u : Value} (hv : it.v = .slice (some ⟨g, 0, none⟩) n cap) (hu : it.xs[i]? = some u) : W.cell? ⟨g, i, none⟩ = some u := by
  have h1 := (h.own.1 it (List.mem_cons_of_mem _ (List.mem_cons_of_mem _ (List.mem_cons_of_mem _ hm)))).1.cells (g := g) (by rw [hv]; rfl) i u hu
  rwa [addr_add] at h1
end
/-- A box of three is a row of one. -/
theorem box3_own (w : World) (E : TypeId) (x y z : Value) : OwnsGI w.heap.size (w.alloc (.cells #[x, y, z] E)) ⟨E, 3, .slice (some ⟨w.heap.size, 0, none⟩) 1 1, 1, [x, y, z]⟩ :=
  ⟨⟨rfl, .inr ⟨w.heap.size, 1, #[x, y, z], rfl, Nat.le_refl _, heap_alloc_new _ _, Nat.le_refl _, by unfold maxLen; omega, rfl, rfl⟩⟩, _, _, rfl⟩

theorem stepK_at (fa fb : Nat) (nb : Int) (s s1 t t1 : Nat) (l l' : Int) (w : Nat) : stepK fa fb nb ((s : Int), l, (s1 : Int)) ((t : Int), l', (t1 : Int)) w = (numK nb s t w, l, numK nb s1 t1 (nxW fa fb s t w : Nat)) := by simp [stepK]
theorem flat_len {α β : Type} (f : α → List β) (m : Nat) (h : ∀ a, (f a).length ≤ m) (l : List α) : (l.flatMap f).length ≤ l.length * m := by
  induction l with
  | nil => simp
  | cons a l ih =>
    rw [List.flatMap_cons, List.length_append, List.length_cons, Nat.succ_mul]
    have := h a
    omega
theorem pairK_len (fa fb : Nat) (nb : Int) (a b : StepI) : (pairK fa fb nb a b).length ≤ 2 := by unfold pairK; split <;> simp
theorem rowK_len (fa fb : Nat) (nb : Int) (U : List StepI) (a : StepI) : (rowK fa fb nb U a).length ≤ U.length * 2 := flat_len _ 2 (fun b => pairK_len fa fb nb a b) U
/-- The two steps' boxes. -/
def SBx (bu bv : Nat) (s l s1 t t1 : Int) (W : World) : Prop :=
  W.cell? ⟨bu, 0, none⟩ = some (.int .i64 s) ∧ W.cell? ⟨bu, 1, none⟩ = some (.int .i64 l) ∧ W.cell? ⟨bu, 2, none⟩ = some (.int .i64 s1) ∧ W.cell? ⟨bv, 0, none⟩ = some (.int .i64 t) ∧ W.cell? ⟨bv, 2, none⟩ = some (.int .i64 t1)
theorem SBx.kept {bu bv : Nat} {s l s1 t t1 : Int} {W W' : World} (h : SBx bu bv s l s1 t t1 W) (hg : W.grownBy W' none) : SBx bu bv s l s1 t t1 W' :=
  ⟨hg.cell h.1 (by simp), hg.cell h.2.1 (by simp), hg.cell h.2.2.1 (by simp), hg.cell h.2.2.2.1 (by simp), hg.cell h.2.2.2.2 (by simp)⟩
theorem SBx.of {B bu bv : Nat} {s l s1 t t1 l' : Int} {W : World} (h1 : OwnsGI B W ⟨53, 3, .slice (some ⟨bu, 0, none⟩) 1 1, 1, [.int .i64 s, .int .i64 l, .int .i64 s1]⟩) (h2 : OwnsGI B W ⟨53, 3, .slice (some ⟨bv, 0, none⟩) 1 1, 1, [.int .i64 t, .int .i64 l', .int .i64 t1]⟩) : SBx bu bv s l s1 t t1 W := by
  have c1 : ∀ i u, [Value.int .i64 s, .int .i64 l, .int .i64 s1][i]? = some u → W.cell? ⟨bu, i, none⟩ = some u := fun i u hu => by
    have := h1.1.cells (g := bu) rfl i u hu
    rwa [addr_add] at this
  have c2 : ∀ i u, [Value.int .i64 t, .int .i64 l', .int .i64 t1][i]? = some u → W.cell? ⟨bv, i, none⟩ = some u := fun i u hu => by
    have := h2.1.cells (g := bv) rfl i u hu
    rwa [addr_add] at this
  exact ⟨c1 0 _ rfl, c1 1 _ rfl, c1 2 _ rfl, c2 0 _ rfl, c2 2 _ rfl⟩

/-- What finals answers, as a row of one's own. -/
def tabG (g n s : Nat) : ItemG := ⟨4, 1, .slice (some ⟨g, 0, none⟩) n n, n, bset s n⟩
def FinG (n s : Nat) (w : World) (E : Ending) (w' : World) : Prop := ∃ g, E = .returned (.slice (some ⟨g, 0, none⟩) n n) ∧ OwnsGI w.heap.size w' (tabG g n s) ∧ w.grownBy w' none
theorem finG_any (x : Aut) (hG : GoodA x) (a b e : Option Addr) (c d f : Nat) (w : World) (h : AutAt w x a b e) :
    Calls Try.prog 53 #[autV x.L x.N a x.S.length c b x.T.length d e x.F.length f] w (FinG x.N.toNat (setOf x.F) w) := by
  have h1 := hG.l1
  have h2 := hG.n1
  have hc := finals_any x x.L.toNat x.N.toNat (by omega) hG a b e c d f w h
  rw [Int.toNat_of_nonneg (by omega : 0 ≤ x.L), Int.toNat_of_nonneg (by omega : 0 ≤ x.N)] at hc
  refine hc.mono ?_
  rintro E w' ⟨g, rfl, ho, hg⟩
  refine ⟨g, rfl, ?_, hg⟩
  obtain ⟨r1, r2⟩ := ho.head
  have r1' : w'.ownsRow w.heap.size 4 1 (.slice (some ⟨g, 0, none⟩) x.N.toNat x.N.toNat) (bset (setOf x.F) x.N.toNat).length (bset (setOf x.F) x.N.toNat) := r1
  rw [bset_len] at r1'
  exact ⟨r1', _, _, rfl⟩

theorem index_two (p q : Bool) (W : World) : (Instr.index 80 (.agg #[.bool p, .bool q]) (.int .i64 0)).run Try.prog W = .ok (.bool p) W ∧ (Instr.index 80 (.agg #[.bool p, .bool q]) (.int .i64 1)).run Try.prog W = .ok (.bool q) W := by
  constructor <;> simp [Instr.index, go_sem, run_underlying Try.underlying80]

/-- A state of both gets its number. -/
theorem numberK_any (s t v : Int) (n : Int) (ky : Nat) (w : World) (h : w.cell? ⟨ky, 1, none⟩ = some (.int .i64 n)) (hs : 0 ≤ s ∧ s ≤ 8) (ht : 0 ≤ t ∧ t ≤ 8) (hv : 0 ≤ v ∧ v ≤ 1) (hn : 0 ≤ n ∧ n ≤ 8) :
    Calls Try.prog 52 #[.int .i64 s, .int .i64 t, .int .i64 v, .pointer (some ⟨ky, 0, none⟩)] w fun e w' => e = .returned (.int .i64 (numK n s t v)) ∧ w' = w := by
  have h1 : 0 ≤ s * n := Int.mul_nonneg hs.1 hn.1
  have h2 : s * n ≤ 8 * 8 := Int.mul_le_mul hs.2 hn.2 hn.1 (by omega)
  have w1 : IntKind.i64.wrap (s * n) = s * n := by rw [IntKind.wrap_i64]; omega
  have w2 : IntKind.i64.wrap (s * n + t) = s * n + t := by rw [IntKind.wrap_i64]; omega
  have w3 : IntKind.i64.wrap ((s * n + t) * 2) = (s * n + t) * 2 := by rw [IntKind.wrap_i64]; omega
  have w4 : IntKind.i64.wrap ((s * n + t) * 2 + v) = (s * n + t) * 2 + v := by rw [IntKind.wrap_i64]; omega
  unfold numK
  clear h1 h2
  go_enter Try.func52, Try.ntmps52
  go_wp2_with fail
  go_ret
  exact ⟨rfl, rfl⟩

end Go.Proofs.Ytaangdomdeklhaa

namespace Go.Proofs.Ytaangdomdeklhaa
open Go.RowKit Go.Sort Go.Shelf
set_option linter.unusedVariables false

/-- What order answers, and that its boxes are new. -/
def OrdNew (L N : Int) (w : World) (e : Ending) (w' : World) : Prop := ∃ bn ba, w.heap.size ≤ bn ∧ w.heap.size ≤ ba ∧ e = .returned (.func (.func 57) #[] #[.pointer (some ⟨bn, 0, none⟩)]) ∧ OrdAt w' bn ba L N ∧ w.grownBy w' none

set_option maxHeartbeats 800000 in
theorem order_new (L N : Int) (a b e : Option Addr) (n c k d m f : Nat) (w : World) : Calls Try.prog 39 #[autV L N a n c b k d e m f] w (OrdNew L N w) := by
  have HB : Hid (∀ (g : Nat) o, g = w.heap.size + 1 → OrdAt ((w.alloc (.cells #[.int .i64 L, .int .i64 N, .slice a n c, .slice b k d, .slice e m f] 25)).alloc (.cells #[.func (.func 56) #[] #[.pointer (some ⟨w.heap.size, 0, none⟩)]] o)) g w.heap.size L N) := fun g o hg => by
    obtain ⟨h0, h1, _⟩ := box5 (grown_alloc (w.alloc (.cells #[.int .i64 L, .int .i64 N, .slice a n c, .slice b k d, .slice e m f] 25)) (.cells #[.func (.func 56) #[] #[.pointer (some ⟨w.heap.size, 0, none⟩)]] o))
    refine ⟨?_, h0, h1⟩
    have h2 := heap_alloc_new (w.alloc (.cells #[.int .i64 L, .int .i64 N, .slice a n c, .slice b k d, .slice e m f] 25)) (.cells #[.func (.func 56) #[] #[.pointer (some ⟨w.heap.size, 0, none⟩)]] o)
    rw [World.size_alloc, ← hg] at h2
    rw [cell_of_row _ _ 0 _ _ (0, 0) h2]
    rfl
  have G : Hid (∀ o o', w.grownBy ((w.alloc o).alloc o') none) := fun o o' => grown_trans (grown_alloc _ _) (grown_alloc _ _)
  have S1 : Hid (w.heap.size ≤ w.heap.size + 1) := Nat.le_succ _
  have S0 : Hid (w.heap.size ≤ w.heap.size) := Nat.le_refl _
  go_enter Try.func39, Try.ntmps39
  go_wp2_with fail
  go_ret
  exact ⟨_, _, S1.out, S0.out, rfl, HB.out _ _ rfl, G.out _ _⟩

/-- What is made: the box k3 and its three rows. -/
structure DoneJ (W3 : World) (k3 : Nat) (L N : Int) (W : World) (aS : Option Addr) (cS : Nat) (aT : Option Addr) (cT : Nat) (aF : Option Addr) (cF : Nat) (zs : List Int) (T : List StepI) (zf : List Int) : Prop where
  gr : W3.grownBy W none
  lt : k3 < W.heap.size
  box : W.heap[k3]? = some (.cells #[.int .i64 L, .int .i64 N, .slice aS zs.length cS, .slice aT T.length cT, .slice aF zf.length cF] 25 (0, 0))
  iS : Ints W aS zs
  iT : StepsAt W aT T
  iF : Ints W aF zf
  new : ∀ y, (aS = some y ∨ aT = some y ∨ aF = some y) → k3 + 1 ≤ y.block
theorem DoneJ.kept {W3 W W' : World} {k3 : Nat} {L N : Int} {aS aT aF : Option Addr} {cS cT cF : Nat} {zs zf : List Int} {T : List StepI} (h : DoneJ W3 k3 L N W aS cS aT cT aF cF zs T zf) (hg : W.grownBy W' none) : DoneJ W3 k3 L N W' aS cS aT cT aF cF zs T zf :=
  ⟨grown_trans h.gr hg, Nat.lt_of_lt_of_le h.lt hg.size, (hg.block _ h.lt (by simp)).trans h.box, h.iS.grown hg, h.iT.grown hg, h.iF.grown hg, h.new⟩

section
variable {W3 : World} {k3 : Nat} {L N : Int} {W W0 : World} {vS vT vF : Value} {zs zf : List Int} {T : List StepI} {r : List ItemG}
/-- What is made, as it lies there. -/
theorem StJ.done (h : StJ W3 k3 L N W vS vT vF zs T zf r) : ∃ aS cS aT cT aF cF, vS = .slice aS zs.length cS ∧ vT = .slice aT T.length cT ∧ vF = .slice aF zf.length cF ∧ DoneJ W3 k3 L N W aS cS aT cT aF cF zs T zf := by
  obtain ⟨aS, cS, eS, iS, fS⟩ := h.own.ints
  obtain ⟨aT, cT, eT, iT, fT⟩ := (h.own.perm (List.Perm.swap _ _ _)).steps
  obtain ⟨aF, cF, eF, iF, fF⟩ := (h.own.perm (((List.Perm.swap _ _ _).cons _).trans (List.Perm.swap _ _ _))).ints
  subst eS eT eF
  exact ⟨aS, cS, aT, cT, aF, cF, rfl, rfl, rfl, h.gr, h.lt, h.box, iS, iT, iF, fun y hy => hy.elim (fS y) fun hy => hy.elim (fT y) (fF y)⟩
/-- What is made, its steps in order. -/
def SortJ (W3 : World) (k3 : Nat) (L N : Int) (aS : Option Addr) (cS : Nat) (aT : Option Addr) (cT : Nat) (aF : Option Addr) (cF : Nat) (zs : List Int) (T : List StepI) (zf : List Int) (e : Ending) (w' : World) : Prop := e = .returned (.tuple #[]) ∧ ∃ T' : List StepI, T'.Perm T ∧ (T'.Pairwise fun p q => ¬ numS L N q < numS L N p) ∧ DoneJ W3 k3 L N w' aS cS aT cT aF cF zs T' zf
theorem StJ.sort {aS aT aF : Option Addr} {cS cT cF : Nat} (h : StJ W3 k3 L N W0 (.slice aS zs.length cS) (.slice aT T.length cT) (.slice aF zf.length cF) zs T zf r) (hl : L ≤ 4) (hl1 : 1 ≤ L) (hn1 : 1 ≤ N) (hn : N ≤ 300) (hT : ∀ t, t ∈ T → StIn L N t) (hTl : T.length ≤ 1000000) (hg : W0.grownBy W none) {bn ba : Nat} (hbn : W0.heap.size ≤ bn) (hba : W0.heap.size ≤ ba) (hO : OrdAt W bn ba L N) :
    Calls Try.prog 54 #[.slice aT T.length cT, .func (.func 57) #[] #[.pointer (some ⟨bn, 0, none⟩)]] W (SortJ W3 k3 L N aS cS aT cT aF cF zs T zf) := by
  have hD : DoneJ W3 k3 L N W aS cS aT cT aF cF zs T zf := by
    obtain ⟨a1, c1, a2, c2, a3, c3, e1, e2, e3, hD⟩ := (h.kept hg).done
    cases e1; cases e2; cases e3
    exact hD
  have own2 := h.own.perm (List.Perm.swap _ _ _)
  rcases own2.head.1.2 with ⟨e1, e2⟩ | ⟨g, cap, cur, e1, hB, hh, _⟩
  · have e2' : T.length = 0 := e2
    have eT : T = [] := List.length_eq_zero_iff.1 e2'
    subst eT
    have hc := AnyF.slices_SortFunc_none Try.laysSort aT cT (.func (.func 57) #[] #[.pointer (some ⟨bn, 0, none⟩)]) W
    refine Calls.mono hc ?_
    rintro E w' ⟨rfl, rfl⟩
    exact ⟨rfl, [], List.Perm.refl _, List.Pairwise.nil, hD⟩
  · have e1' : aT = some ⟨g, 0, none⟩ := by
      have : Value.slice aT T.length cT = .slice (some ⟨g, 0, none⟩) T.length cap := e1
      cases this
      rfl
    subst e1'
    have hgl : g < W0.heap.size := (Array.getElem?_eq_some_iff.1 hh).1
    have hB' : k3 + 1 ≤ g := hB
    have own2W := own2.kept hg
    have cl : ∀ j u, (flatT T)[j]? = some u → W.cell? ⟨g, j, none⟩ = some u := fun j u hu => own2W.cell rfl hu
    have hc : ∀ i, i < T.length → W.cell? ⟨g, i * 3, none⟩ = some (.int .i64 (T.getD i (0, 0, 0)).1) ∧ W.cell? ⟨g, i * 3 + 1, none⟩ = some (.int .i64 (T.getD i (0, 0, 0)).2.1) ∧ W.cell? ⟨g, i * 3 + 2, none⟩ = some (.int .i64 (T.getD i (0, 0, 0)).2.2) := fun i hi => by
      obtain ⟨f0, f1, f2⟩ := flatT_get T hi
      exact ⟨cl _ _ f0, cl _ _ f1, cl _ _ f2⟩
    have hcall := sort_any L N hl hl1 hn1 hn T hT hTl g cT bn ba W hc (fun k => own2W.fz rfl k) (Nat.lt_of_lt_of_le hgl hg.size) hO (by omega) (by omega)
    refine Calls.mono hcall ?_
    rintro E w' ⟨rfl, T', hp, hs, hS, hgr⟩
    have hk3 : W3.heap.size = k3 := h.size
    have hap := own2.2
    have apS : Apart (Value.slice (some ⟨g, 0, none⟩) T.length cT) (Value.slice aS zs.length cS) := (List.pairwise_cons.1 hap).1 ⟨3, 1, .slice aS zs.length cS, zs.length, vals zs⟩ (by simp)
    have apF : Apart (Value.slice (some ⟨g, 0, none⟩) T.length cT) (Value.slice aF zf.length cF) := (List.pairwise_cons.1 hap).1 ⟨3, 1, .slice aF zf.length cF, zf.length, vals zf⟩ (by simp)
    have ne : ∀ (a : Option Addr) (n c : Nat), Apart (Value.slice (some ⟨g, 0, none⟩) T.length cT) (Value.slice a n c) → ∀ y, a = some y → y.block ≠ g := fun a n c hA y hy => by
      subst hy
      rcases hA with hA | hA | hA
      · cases hA
      · cases hA
      · intro e
        exact hA (by simp [Value.ownBlock, e])
    refine ⟨rfl, T', hp, hs, grown_new hD.gr hgr (by omega), Nat.lt_of_lt_of_le hD.lt hgr.size, ?_, intsN_far hD.iS (fun _ => ne _ _ _ apS) hgr, hS, intsN_far hD.iF (fun _ => ne _ _ _ apF) hgr, hD.new⟩
    rw [hp.length_eq]
    exact (hgr.block _ hD.lt (by simp; omega)).trans hD.box
end

end Go.Proofs.Ytaangdomdeklhaa
