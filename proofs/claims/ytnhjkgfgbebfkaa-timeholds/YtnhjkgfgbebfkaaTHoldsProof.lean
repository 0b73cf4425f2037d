/- TimeHolds holds: for every text and every lasso the program's Holds refuses what the reference refuses, and else tells of the lasso's infinite word what the reference tells; it writes nothing that was there; there are no conditions. -/
import Derived.Test.YtnhjkgfgbebfkaaTHoldsW
import Derived.ProofKit
import Derived.OpenShut
import Derived.ShutString
import Derived.ChangeOld
import Derived.Below
import Derived.Lib.SmallJoins
namespace Go.Proofs.Ytnhjkgfgbebfkaa
open Go.ChangeShapes Go.WideShapes Go.ChangeAt Go.RowKit Go.Joins
open Go.ChangeMaps (open_string shut_string)
set_option linter.unusedVariables false

theorem Try.cells3 : Try.prog.cellsOf 3 = 1 := by kernel_rfl
theorem Try.cells30 : Try.prog.cellsOf 30 = 1 := by kernel_rfl
theorem Try.laidOut : laidOutB Try.prog = true := by kernel_rfl
theorem add_off (b off i : Nat) : (⟨b, off, none⟩ : Addr).add i = ⟨b, off + i, none⟩ := by
  by_cases hi0 : i = 0
  · subst hi0; simp [Addr.add]
  · simp [Addr.add, hi0]

theorem ints_of_trod {H : Type} {enc : TypeId × Value → H} {W : World} {fuel : Nat} {cs : List Value} {x : DataW H × List MemPlace} (h : DataW.trod enc Try.prog W 0 (fun _ => true) true fuel 30 cs = some x) :
    ∃ a c zs, cs = [.slice a (List.length zs) c] ∧ Ints W a zs ∧ zs.length ≤ maxLen := by
  rcases open_ints Try.underlying30 Try.underlying3 Try.cells3 h with ⟨hcs, _⟩ | ⟨x, len, cap, zs, hcs, _, hl, hm, hz, _, hcell, hwz⟩
  · exact ⟨none, 0, [], hcs, .inl rfl, Nat.zero_le _⟩
  · simp only [if_true] at hz
    have hlen : (zs.take len).length = len := by rw [List.length_take]; omega
    refine ⟨some x, cap, zs.take len, by rw [hlen]; exact hcs, ?_, by rw [hlen]; omega⟩
    by_cases h0 : len = 0
    · left; rw [h0]; rfl
    · right
      obtain ⟨b, off, spot⟩ := x
      have hc := hcell 0 (by omega)
      have hspot : spot = none := by simpa [Addr.add] using World.cell?_spot hc
      subst hspot
      refine ⟨b, off, rfl, fun i hi => ?_⟩
      rw [hlen] at hi
      have := hcell i (by omega)
      rw [add_off] at this
      rw [this]
      simp [List.getD, hi]

theorem Try.cells32 : Try.prog.cellsOf 32 = 2 := by kernel_rfl
set_option maxRecDepth 100000 in
theorem las_of_trod {H : Type} {enc : TypeId × Value → H} {W : World} {base : Nat} {v : Value} {dd : DataW H} {p : List MemPlace} (hv : Value.okWide Try.prog W .any base 32 v) (h : DataW.Trod enc Try.prog W 0 (fun _ => true) true 32 v dd p) :
    ∃ (a a' : Option Addr) (c c' : Nat) (hs ls : List Int), v = .agg #[.slice a hs.length c, .slice a' ls.length c'] ∧ Ints W a hs ∧ Ints W a' ls ∧ hs.length ≤ maxLen ∧ ls.length ≤ maxLen := by
  obtain ⟨cs, rfl, hsz⟩ := okWide_struct Try.underlying32 hv
  obtain ⟨fuel, hf⟩ := h
  obtain ⟨xs, k, hk, hxy, _, hxl, hf⟩ := DataW.trod_struct Try.underlying32 hf
  rw [Try.cells32] at hsz
  obtain ⟨cs⟩ := cs
  simp only [List.size_toArray] at hsz
  match xs, hxl, cs, hsz with
  | [y0, y1], _, [v0, v1], _ =>
    have g0 := hf 0 _ rfl
    have g1 := hf 1 _ rfl
    simp [Try.cells30, Value.cells] at g0 g1
    obtain ⟨a, c, S, e0, i0, m0⟩ := ints_of_trod g0
    obtain ⟨a', c', F, e1, i1, m1⟩ := ints_of_trod g1
    simp only [List.cons.injEq, and_true] at e0 e1
    subst e0 e1
    exact ⟨a, a', c, c', S, F, rfl, i0, i1, m0, m1⟩

theorem mayF_fits {zs : List Int} (h : mayF 4 zs = 0) : zs.length ≤ 60 ∧ ∀ k, k < zs.length → 0 ≤ zs.getD k 0 ∧ zs.getD k 0 < 4 := by
  unfold mayF at h
  split at h
  · cases h
  · split at h
    · cases h
    · split at h
      · next h1 =>
        refine ⟨by omega, fun k hk => ?_⟩
        have := List.all_eq_true.1 h1 (zs.getD k 0) (by rw [getD_lt hk]; exact List.getElem_mem hk)
        simpa using this
      · cases h
theorem letters_both {us vs : List Int} (hu : ∀ k, k < us.length → 0 ≤ us.getD k 0 ∧ us.getD k 0 < 4) (hv : ∀ k, k < vs.length → 0 ≤ vs.getD k 0 ∧ vs.getD k 0 < 4) : ∀ j, j < us.length + vs.length → (us ++ vs).getD j 0 = (((us ++ vs).getD j 0).toNat : Int) ∧ ((us ++ vs).getD j 0).toNat < 4 := by
  intro j hj
  have : 0 ≤ (us ++ vs).getD j 0 ∧ (us ++ vs).getD j 0 < 4 := by
    by_cases h : j < us.length
    · have e : (us ++ vs).getD j 0 = us.getD j 0 := by simp [List.getD, List.getElem?_append_left h]
      rw [e]; exact hu j h
    · have e : (us ++ vs).getD j 0 = vs.getD (j - us.length) 0 := by simp [List.getD, List.getElem?_append_right (by omega : us.length ≤ j)]
      rw [e]; exact hv _ (by omega)
  omega

theorem tholds_walk (s : ByteArray) (ah al : Option Addr) (ch cl : Nat) (hs ls : List Int) (w : World) (hm : s.size ≤ maxLen) (hh : Ints w ah hs) (hl : Ints w al ls) (hhm : hs.length ≤ maxLen) (hlm : ls.length ≤ maxLen) :
    Calls Try.prog 4 #[.string s, lasV ah hs.length ch al ls.length cl] w (Says (.bool true) w) := by
  have HJ : ∀ W, w.grownBy W none → Calls Try.prog 6 #[.string s] W fun e w' => ∃ (v : Value) (k : Int), e = .returned (.tuple #[v, .int .i64 (k : Int), .agg #[.int .i64 (codeQ (parseQ s)), .int .i64 ((atQ (parseQ s) : Nat) : Int)]]) ∧ W.grownBy w' none := fun W _ => (parseQ_any s W hm).mono fun e w' h => by
    obtain ⟨v, k, h1, h2⟩ := h.flat
    exact ⟨v, k, h1, grown_of_below h2⟩
  have HL : ∀ W, w.grownBy W none → Calls Try.prog 8 #[.int .i64 4, lasV ah hs.length ch al ls.length cl] W (Says (.int .i64 (lassoF 4 hs ls)) W) := fun W hW => lassoR_any 4 ah al ch cl hs ls W (hh.grown hW) (hl.grown hW) hhm hlm
  cases hp : parseQ s with
  | bad c j =>
    have hc := codeQ_bad hp
    exact tholds_A s ah al hs.length ch ls.length cl w _ _ hc (fun W hW => holdsT_bad s ah al ch cl hs.length ls.length W hm hc) HJ
  | good f j n t =>
    have hc : codeQ (parseQ s) = 0 := by rw [hp]; rfl
    have ha : atQ (parseQ s) = 0 := by rw [hp]; rfl
    rw [hc, ha] at HJ
    by_cases hy : lassoF 4 hs ls = 0
    · rw [hy] at HL
      obtain ⟨m1, m2, m3⟩ := lasso_word hy
      obtain ⟨l1, q1⟩ := mayF_fits m1
      obtain ⟨l2, q2⟩ := mayF_fits m2
      have hlt := letters_both q1 q2
      refine tholds_C s ah al hs.length ch ls.length cl w (semT (hs.length + ls.length) hs.length (fun j => ((hs ++ ls).getD j 0).toNat) (trOf f) 0) (fun W g m c k => ∃ ps : List NodR, ps.length = m ∧ m ≤ 31 ∧ ListN W g ps ∧ k < ps.length ∧ MeansN ps k f ∧ AllN ps) (fun W hW => holdsT_good s ah al ch cl hs ls W hm f j n t hp (hh.grown hW) (hl.grown hW) l1 l2 (by omega) hy _ hlt) ?_ ?_ HL ?_
      · intro W hW
        refine (parseQ_any s W hm).mono ?_
        rintro e w' ⟨h1, h2⟩
        rw [hp] at h2
        obtain ⟨L, ps, b, k, h3, h4, h5, h6, h7, h8, h9⟩ := h2
        obtain ⟨g, cap, rfl, hL⟩ := listN_of h5 (by omega)
        exact ⟨g, ps.length, cap, k, h3, grown_of_below h1, ps, rfl, h8, hL, h6, h7, h9⟩
      · rintro W W' g m c k ⟨ps, h1, h2, h3, h4⟩ hg
        exact ⟨ps, h1, h2, h3.kept hg, h4⟩
      · rintro W g m c k hW ⟨ps, rfl, h2, h3, h4, h5, h6⟩
        exact holdsR_any hs ls _ ps h6 f k h5 h4 h2 W g c ah al ch cl (hh.grown hW) (hl.grown hW) l1 l2 (by omega) hlt h3
    · exact tholds_B s ah al hs.length ch ls.length cl w 0 _ hy (fun W hW => holdsT_las s ah al ch cl hs ls W hm hc (hh.grown hW) (hl.grown hW) hhm hlm hy) HJ HL

theorem tholds_own : ownKnob Try.prog.godebug = none := by kernel_rfl

set_option maxRecDepth 100000 in
theorem tholds_lifted (os : Os) (started : os.Started) (H : Type) (enc : TypeId × Value → H) :
    ReturnsInHanded {} Try.checked os 4 .any (Rows.timeHoldsSpec.pre6 enc Try.prog Try.f4 Rows.timeHoldsRow.domain false) (Rows.timeHoldsSpec.post enc Try.prog Try.f4 false true false false) := by
  refine returnsInHanded_of_change (C := Try.checked) tholds_own started (by kernel_rfl) Try.func4
    (ChangeSpec.witness6 (enc := enc) (C := Try.checked) false ⟨#[], #[.string ByteArray.empty, .agg #[.slice none 0 0, .slice none 0 0]], []⟩ 8 (by kernel_rfl) (by kernel_rfl) (by kernel_rfl) (by kernel_rfl)) ?_
  intro W base args ds gs before hval0 hW hcnd _
  have hval : ∀ (j : Nat) t v, Try.f4.params[j]? = some t → args[j]? = some v → Value.okWide Try.prog W .any base t v := hval0
  have hW' := hW
  obtain ⟨p, q, hA0, hV, rfl, hfz, hnd⟩ := hW
  have hA : DataW.TrodAll enc Try.prog W 0 (fun _ => true) true Try.f4.params.toList args.toList ds p := hA0
  rw [Try.params4] at hA hval
  obtain ⟨v0, vs0, d0, ds0, p0, q0, hargs, rfl, rfl, h0, r0⟩ := trodAll_cons hA
  obtain ⟨v1, vs1, d1, ds1, p1, q1, rfl, rfl, rfl, h1, r1⟩ := trodAll_cons r0
  obtain ⟨rfl, rfl, rfl⟩ := trodAll_nil r1
  obtain rfl : args = #[v0, v1] := by cases args; simp_all
  have lt1 : ∀ x ∈ p1, x.block < W.heap.size := by obtain ⟨m, hm⟩ := h1; exact DataW.trod_lt m _ _ _ hm
  obtain ⟨rfl, rfl⟩ := trodVars_none hV
  obtain ⟨s, rfl, rfl, rfl, hs⟩ := open_string Try.underlying9 (hval 0 9 v0 rfl rfl) h0
  obtain ⟨ah, al, ch, cl, hs2, ls, rfl, hh, hl, hhm, hlm⟩ := las_of_trod (hval 1 32 v1 rfl rfl) h1
  clear hA0 hval0
  refine (tholds_walk s ah al ch cl hs2 ls W hs hh hl hhm hlm).mono fun e W' ⟨he, hg⟩ => ?_
  subst he
  have bel : Below W.heap.size W W' := below_of_grown hg
  exact ⟨_, rfl, _, _, _, [], _, [], hW', trodAll_mk1 (shut_bool Try.underlying4 _), (trodAll_cons_mk (shut_string Try.underlying9 hs) (trodAll_cons_mk (Below.trod Try.laidOut (by kernel_rfl) (of_decide_eq_true (by kernel_rfl)) h1 bel lt1) trodAll_mk0)), rfl, bel.frame _, fun h => by cases h⟩

theorem timeHolds_holds : Rows.TimeHoldsSaid :=
  OpenClaim.holds_of_wide 4 Try.f4 rfl rfl rfl rfl rfl rfl rfl ⟨rfl, rfl, rfl, rfl, rfl⟩ rfl rfl rfl rfl rfl (by kernel_rfl) Try.func4 (by kernel_rfl)
    (of_decide_eq_true (by kernel_rfl)) (by unfold Func.isWrapper; first | (rw [if_pos (by decide +kernel)]; kernel_rfl) | (rw [if_neg (by decide +kernel)]; exact ⟨rfl, rfl⟩))
    (fun os started H enc _ => tholds_lifted os started H enc)
#print axioms timeHolds_holds
end Go.Proofs.Ytnhjkgfgbebfkaa
