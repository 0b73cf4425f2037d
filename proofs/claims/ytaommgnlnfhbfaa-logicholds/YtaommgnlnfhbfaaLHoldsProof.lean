/- LogicHolds holds: for every text and every word the program's Holds refuses what the reference refuses, and else tells of the word what the reference tells; it writes nothing that was there; there are no conditions. -/
import Derived.Test.YtaommgnlnfhbfaaLHoldsW
import Derived.ProofKit
import Derived.OpenShut
import Derived.ShutString
import Derived.ChangeOld
import Derived.Below
import Derived.Lib.SmallJoins
namespace Go.Proofs.Ytaommgnlnfhbfaa
open Go.ChangeShapes Go.WideShapes Go.ChangeAt Go.RowKit Go.Joins
open Go.ChangeMaps (open_string shut_string)
set_option linter.unusedVariables false

theorem Try.cells3 : Try.prog.cellsOf 3 = 1 := by kernel_rfl
theorem Try.laidOut : laidOutB Try.prog = true := by kernel_rfl
theorem add_off (b off i : Nat) : (⟨b, off, none⟩ : Addr).add i = ⟨b, off + i, none⟩ := by
  by_cases hi0 : i = 0
  · subst hi0; simp [Addr.add]
  · simp [Addr.add, hi0]

theorem ints_of_trod {H : Type} {enc : TypeId × Value → H} {W : World} {fuel : Nat} {cs : List Value} {x : DataW H × List MemPlace} (h : DataW.trod enc Try.prog W 0 (fun _ => true) true fuel 30 cs = some x) :
    ∃ a c zs, cs = [.slice a (List.length zs) c] ∧ Ints W a zs ∧ zs.length ≤ maxLen := by
  rcases open_ints Try.underlying30 Try.underlying3 Try.cells3 h with ⟨hcs, _⟩ | ⟨x, len, cap, zs, hcs, _, hl, hm, hz, _, hcell, hwz⟩
  · exact ⟨none, 0, [], hcs, .inl rfl, Nat.zero_le _⟩
  · simp only [if_true] at hz
    have hlen : (zs.take len).length = len := by rw [List.length_take]; omega
    refine ⟨some x, cap, zs.take len, by rw [hlen]; exact hcs, ?_, by rw [hlen]; omega⟩
    by_cases h0 : len = 0
    · left; rw [h0]; rfl
    · right
      obtain ⟨b, off, spot⟩ := x
      have hc := hcell 0 (by omega)
      have hspot : spot = none := by simpa [Addr.add] using World.cell?_spot hc
      subst hspot
      refine ⟨b, off, rfl, fun i hi => ?_⟩
      rw [hlen] at hi
      have := hcell i (by omega)
      rw [add_off] at this
      rw [this]
      simp [List.getD, hi]

set_option maxRecDepth 100000 in
theorem slice_of_trod {H : Type} {enc : TypeId × Value → H} {W : World} {base : Nat} {v : Value} {d : DataW H} {p : List MemPlace} (hv : Value.okWide Try.prog W .any base 30 v) (h : DataW.Trod enc Try.prog W 0 (fun _ => true) true 30 v d p) :
    ∃ a c zs, v = .slice a (List.length zs) c ∧ Ints W a zs ∧ zs.length ≤ maxLen := by
  obtain ⟨a0, len, cap, rfl⟩ := okWide_slice Try.underlying30 hv
  obtain ⟨fuel, hf⟩ := h
  obtain ⟨a, c, zs, hcs, hi, hm⟩ := ints_of_trod hf
  simp only [Value.cells, List.cons.injEq, and_true] at hcs
  exact ⟨a, c, zs, by simpa using hcs, hi, hm⟩

theorem mayF_two {zs : List Int} (h : mayF 2 zs = 0) : ∃ ws : List Nat, zs = ws.map (fun (x : Nat) => (x : Int)) ∧ ∀ x ∈ ws, x < 2 := by
  unfold mayF at h
  split at h
  · cases h
  · split at h
    · cases h
    · split at h
      · next h1 =>
        refine ⟨zs.map Int.toNat, ?_, fun x hx => ?_⟩
        · rw [List.map_map]
          have : ∀ z ∈ zs, ((fun (x : Nat) => (x : Int)) ∘ Int.toNat) z = z := fun z hz => by
            have := List.all_eq_true.1 h1 z hz
            simp at this
            simp
            omega
          have h3 := List.map_congr_left this
          rw [h3, List.map_id']
        · obtain ⟨z, hz, rfl⟩ := List.mem_map.1 hx
          have := List.all_eq_true.1 h1 z hz
          simp at this
          omega
      · cases h
theorem codeK_bad {s : ByteArray} {c : Int} {j : Nat} (h : parseK s = .bad c j) : codeK (parseK s) ≠ 0 := by
  rw [h]
  show c ≠ 0
  unfold parseK at h
  by_cases hs : 4000 < s.size
  · rw [if_pos hs] at h; cases h; omega
  · rw [if_neg hs] at h
    have hfw := formK_fwd (s := s) (lvK_fwd (s.size + 1)) 0 0 0 [] (by omega) (by omega)
    cases hR : formK s (lvK s (s.size + 1)) 0 0 0 [] with
    | bad c' j' => rw [hR] at h hfw; cases h; have := hfw.1; omega
    | good f x y =>
      rw [hR] at h
      simp only at h
      by_cases hj : x < s.size
      · rw [if_pos hj] at h; cases h; omega
      · rw [if_neg hj] at h; cases h
theorem lholds_walk (s : ByteArray) (aw : Option Addr) (cw : Nat) (zs : List Int) (w : World) (hm : s.size ≤ maxLen) (hz : Ints w aw zs) (hzm : zs.length ≤ maxLen) :
    Calls Try.prog 4 #[.string s, .slice aw zs.length cw] w (SaysL (.bool true) w) := by
  have HJ : ∀ W, w.grownBy W none → Calls Try.prog 6 #[.string s] W fun e w' => ∃ v, e = .returned (.tuple #[v, .agg #[.int .i64 (codeK (parseK s)), .int .i64 ((atK (parseK s) : Nat) : Int)]]) ∧ W.grownBy w' none := fun W _ => (parseJ_any s W hm).mono fun e w' ⟨h1, v, h2, _⟩ => ⟨v, h2, grown_of_below h1⟩
  cases hp : parseK s with
  | bad c j =>
    have hc := codeK_bad hp
    exact lholds_A s aw zs.length cw w _ _ hc (fun W hW => holdsP_bad s aw cw zs W hm hc) HJ
  | good f j n =>
    have hc : codeK (parseK s) = 0 := by rw [hp]; rfl
    have ha : atK (parseK s) = 0 := by rw [hp]; rfl
    rw [hc, ha] at HJ
    by_cases h6 : 6 < zs.length
    · exact lholds_B s aw zs.length cw w 0 h6 (fun W hW => holdsP_size s aw cw zs W hm hc h6 hzm) HJ
    · by_cases hy : mayF 2 zs = 0
      · obtain ⟨ws, rfl, h2⟩ := mayF_two hy
        have hwl := parseK_well hp
        rw [List.length_map] at h6 ⊢
        refine lholds_D s aw ws.length cw w (holdL ws f []) h6 (fun W g k c j => ∃ ns : List NdJ, ns.length = k ∧ k ≤ 31 ∧ ListV W g ns ∧ MeansJ ns f j) (fun W hW => holdsP_good s aw cw ws W hm f j n hp (by omega) (hz.grown hW) h2 hy) ?_ ?_ ?_ ?_
        · intro W hW
          refine (parseJ_any s W hm).mono ?_
          rintro e w' ⟨h1, v, h3, h4⟩
          obtain ⟨ns, h5, h7, jj, h8, h9, h10⟩ := h4 f j n hp
          obtain ⟨g, cap, rfl, hL⟩ := listV_of h5 (by omega)
          rw [hc, ha] at h3
          exact ⟨g, ns.length, cap, jj, h3, grown_of_below h1, h9.symm, h7, ns, rfl, h7, hL, h10⟩
        · rintro W W' g k c j ⟨ns, h1, h3, h4, h5⟩ hg
          exact ⟨ns, h1, h3, h4.kept hg, h5⟩
        · intro W hW
          have h1 := mayR_any 2 aw cw (ws.map fun (x : Nat) => (x : Int)) W (hz.grown hW) hzm
          rwa [List.length_map, hy] at h1
        · rintro W g k c j hW ⟨ns, rfl, h3, h4, h5⟩
          exact doesV_all f W g c j ns aw none cw 0 ws [] [] h4 h5 h3 hwl (by omega) (rowW_of (hz.grown hW)) (.inl rfl) (fun _ => ⟨rfl, rfl⟩) ⟨rfl, by simp, fun k hk => by simp at hk, fun k hk => by simp at hk⟩
      · exact lholds_C s aw zs.length cw w 0 _ hy h6 (fun W hW => holdsP_may s aw cw zs W hm hc h6 (hz.grown hW) hy) HJ (fun W hW => mayR_any 2 aw cw zs W (hz.grown hW) hzm)

theorem lholds_own : ownKnob Try.prog.godebug = none := by kernel_rfl

set_option maxRecDepth 100000 in
theorem lholds_lifted (os : Os) (started : os.Started) (H : Type) (enc : TypeId × Value → H) :
    ReturnsInHanded {} Try.checked os 4 .any (Rows.logicHoldsSpec.pre6 enc Try.prog Try.f4 Rows.logicHoldsRow.domain false) (Rows.logicHoldsSpec.post enc Try.prog Try.f4 false true false false) := by
  refine returnsInHanded_of_change (C := Try.checked) lholds_own started (by kernel_rfl) Try.func4
    (ChangeSpec.witness6 (enc := enc) (C := Try.checked) false ⟨#[], #[.string ByteArray.empty, .slice none 0 0], []⟩ 8 (by kernel_rfl) (by kernel_rfl) (by kernel_rfl) (by kernel_rfl)) ?_
  intro W base args ds gs before hval0 hW hcnd _
  have hval : ∀ (j : Nat) t v, Try.f4.params[j]? = some t → args[j]? = some v → Value.okWide Try.prog W .any base t v := hval0
  have hW' := hW
  obtain ⟨p, q, hA0, hV, rfl, hfz, hnd⟩ := hW
  have hA : DataW.TrodAll enc Try.prog W 0 (fun _ => true) true Try.f4.params.toList args.toList ds p := hA0
  rw [Try.params4] at hA hval
  obtain ⟨v0, vs0, d0, ds0, p0, q0, hargs, rfl, rfl, h0, r0⟩ := trodAll_cons hA
  obtain ⟨v1, vs1, d1, ds1, p1, q1, rfl, rfl, rfl, h1, r1⟩ := trodAll_cons r0
  obtain ⟨rfl, rfl, rfl⟩ := trodAll_nil r1
  obtain rfl : args = #[v0, v1] := by cases args; simp_all
  have lt1 : ∀ x ∈ p1, x.block < W.heap.size := by obtain ⟨m, hm⟩ := h1; exact DataW.trod_lt m _ _ _ hm
  obtain ⟨rfl, rfl⟩ := trodVars_none hV
  obtain ⟨s, rfl, rfl, rfl, hs⟩ := open_string Try.underlying9 (hval 0 9 v0 rfl rfl) h0
  obtain ⟨aw, cw, zs, rfl, hz, hzm⟩ := slice_of_trod (hval 1 30 v1 rfl rfl) h1
  clear hA0 hval0
  refine (lholds_walk s aw cw zs W hs hz hzm).mono fun e W' ⟨he, hg⟩ => ?_
  subst he
  have bel : Below W.heap.size W W' := below_of_grown hg
  exact ⟨_, rfl, _, _, _, [], _, [], hW', trodAll_mk1 (shut_bool Try.underlying4 _), (trodAll_cons_mk (shut_string Try.underlying9 hs) (trodAll_cons_mk (Below.trod Try.laidOut (by kernel_rfl) (of_decide_eq_true (by kernel_rfl)) h1 bel lt1) trodAll_mk0)), rfl, bel.frame _, fun h => by cases h⟩

theorem logicHolds_holds : Rows.LogicHoldsSaid :=
  OpenClaim.holds_of_wide 4 Try.f4 rfl rfl rfl rfl rfl rfl rfl ⟨rfl, rfl, rfl, rfl, rfl⟩ rfl rfl rfl rfl rfl (by kernel_rfl) Try.func4 (by kernel_rfl)
    (of_decide_eq_true (by kernel_rfl)) (by unfold Func.isWrapper; first | (rw [if_pos (by decide +kernel)]; kernel_rfl) | (rw [if_neg (by decide +kernel)]; exact ⟨rfl, rfl⟩))
    (fun os started H enc _ => lholds_lifted os started H enc)
#print axioms logicHolds_holds
end Go.Proofs.Ytaommgnlnfhbfaa
