/- TimeLaws holds: for every two texts and every lasso: the formula GFp is true of the lasso that the law makes; and where both texts are formulas, a formula or its opposite has the word, always is not some time not, and until unfolds by one place, as far as the texts that are put together may be; it writes nothing that was there; there are no conditions. -/
import Derived.Test.YtneialmpaiejcaaTLawsC
import Derived.ProofKit
import Derived.OpenShut
import Derived.ShutString
import Derived.ChangeOld
import Derived.Below
import Derived.Lib.SmallJoins
namespace Go.Proofs.Ytneialmpaiejcaa
open Go.ChangeShapes Go.WideShapes Go.ChangeAt Go.RowKit Go.Joins
open Go.ChangeMaps (open_string shut_string)
set_option linter.unusedVariables false

theorem Try.cells3 : Try.prog.cellsOf 3 = 1 := by kernel_rfl
theorem Try.cells22 : Try.prog.cellsOf 22 = 1 := by kernel_rfl
theorem Try.laidOut : laidOutB Try.prog = true := by kernel_rfl
theorem add_off (b off i : Nat) : (⟨b, off, none⟩ : Addr).add i = ⟨b, off + i, none⟩ := by
  by_cases hi0 : i = 0
  · subst hi0; simp [Addr.add]
  · simp [Addr.add, hi0]

theorem ints_of_trod {H : Type} {enc : TypeId × Value → H} {W : World} {fuel : Nat} {cs : List Value} {x : DataW H × List MemPlace} (h : DataW.trod enc Try.prog W 0 (fun _ => true) true fuel 22 cs = some x) :
    ∃ a c zs, cs = [.slice a (List.length zs) c] ∧ Ints W a zs ∧ zs.length ≤ maxLen := by
  rcases open_ints Try.underlying22 Try.underlying3 Try.cells3 h with ⟨hcs, _⟩ | ⟨x, len, cap, zs, hcs, _, hl, hm, hz, _, hcell, hwz⟩
  · exact ⟨none, 0, [], hcs, .inl rfl, Nat.zero_le _⟩
  · simp only [if_true] at hz
    have hlen : (zs.take len).length = len := by rw [List.length_take]; omega
    refine ⟨some x, cap, zs.take len, by rw [hlen]; exact hcs, ?_, by rw [hlen]; omega⟩
    by_cases h0 : len = 0
    · left; rw [h0]; rfl
    · right
      obtain ⟨b, off, spot⟩ := x
      have hc := hcell 0 (by omega)
      have hspot : spot = none := by simpa [Addr.add] using World.cell?_spot hc
      subst hspot
      refine ⟨b, off, rfl, fun i hi => ?_⟩
      rw [hlen] at hi
      have := hcell i (by omega)
      rw [add_off] at this
      rw [this]
      simp [List.getD, hi]

theorem Try.cells24 : Try.prog.cellsOf 24 = 2 := by kernel_rfl
set_option maxRecDepth 100000 in
theorem las_of_trod {H : Type} {enc : TypeId × Value → H} {W : World} {base : Nat} {v : Value} {dd : DataW H} {p : List MemPlace} (hv : Value.okWide Try.prog W .any base 24 v) (h : DataW.Trod enc Try.prog W 0 (fun _ => true) true 24 v dd p) :
    ∃ (a a' : Option Addr) (c c' : Nat) (hs ls : List Int), v = .agg #[.slice a hs.length c, .slice a' ls.length c'] ∧ Ints W a hs ∧ Ints W a' ls ∧ hs.length ≤ maxLen ∧ ls.length ≤ maxLen := by
  obtain ⟨cs, rfl, hsz⟩ := okWide_struct Try.underlying24 hv
  obtain ⟨fuel, hf⟩ := h
  obtain ⟨xs, k, hk, hxy, _, hxl, hf⟩ := DataW.trod_struct Try.underlying24 hf
  rw [Try.cells24] at hsz
  obtain ⟨cs⟩ := cs
  simp only [List.size_toArray] at hsz
  match xs, hxl, cs, hsz with
  | [y0, y1], _, [v0, v1], _ =>
    have g0 := hf 0 _ rfl
    have g1 := hf 1 _ rfl
    simp [Try.cells22, Value.cells] at g0 g1
    obtain ⟨a, c, S, e0, i0, m0⟩ := ints_of_trod g0
    obtain ⟨a', c', F, e1, i1, m1⟩ := ints_of_trod g1
    simp only [List.cons.injEq, and_true] at e0 e1
    subst e0 e1
    exact ⟨a, a', c, c', S, F, rfl, i0, i1, m0, m1⟩

theorem mayF_fits {zs : List Int} (h : mayF 4 zs = 0) : zs.length ≤ 60 ∧ ∀ k, k < zs.length → 0 ≤ zs.getD k 0 ∧ zs.getD k 0 < 4 := by
  unfold mayF at h
  split at h
  · cases h
  · split at h
    · cases h
    · split at h
      · next h1 =>
        refine ⟨by omega, fun k hk => ?_⟩
        have := List.all_eq_true.1 h1 (zs.getD k 0) (by rw [getD_lt hk]; exact List.getElem_mem hk)
        simpa using this
      · cases h
theorem letters_both {us vs : List Int} (hu : ∀ k, k < us.length → 0 ≤ us.getD k 0 ∧ us.getD k 0 < 4) (hv : ∀ k, k < vs.length → 0 ≤ vs.getD k 0 ∧ vs.getD k 0 < 4) : ∀ j, j < us.length + vs.length → (us ++ vs).getD j 0 = (((us ++ vs).getD j 0).toNat : Int) ∧ ((us ++ vs).getD j 0).toNat < 4 := by
  intro j hj
  have : 0 ≤ (us ++ vs).getD j 0 ∧ (us ++ vs).getD j 0 < 4 := by
    by_cases h : j < us.length
    · have e : (us ++ vs).getD j 0 = us.getD j 0 := by simp [List.getD, List.getElem?_append_left h]
      rw [e]; exact hu j h
    · have e : (us ++ vs).getD j 0 = vs.getD (j - us.length) 0 := by simp [List.getD, List.getElem?_append_right (by omega : us.length ≤ j)]
      rw [e]; exact hv _ (by omega)
  omega

def eT (hs ls : List Int) (S : ByteArray) : Int := if codeQ (parseQ S) = 0 then lassoF 4 hs ls else 4
def bT (hs ls : List Int) (S : ByteArray) : Bool := match parseQ S with
  | .good f _ _ _ => if lassoF 4 hs ls = 0 then semT (hs.length + ls.length) hs.length (fun j => ((hs ++ ls).getD j 0).toNat) (trOf f) 0 else false
  | .bad _ _ => false
theorem eT_zero {hs ls : List Int} {S : ByteArray} (h : eT hs ls S = 0) : ∃ f j n t, parseQ S = .good f j n t ∧ lassoF 4 hs ls = 0 := by
  unfold eT at h
  split at h
  · rename_i hc
    cases hp : parseQ S with
    | good f j n t => exact ⟨f, j, n, t, rfl, h⟩
    | bad c j => exact absurd hc (codeQ_bad hp)
  · omega
theorem bT_good {hs ls : List Int} {S : ByteArray} {f : Fm} {j n t : Nat} (hp : parseQ S = .good f j n t) (hl : lassoF 4 hs ls = 0) : bT hs ls S = semT (hs.length + ls.length) hs.length (fun j => ((hs ++ ls).getD j 0).toNat) (trOf f) 0 := by
  unfold bT
  rw [hp]
  show (if lassoF 4 hs ls = 0 then _ else _) = _
  rw [if_pos hl]
theorem holdsT_any (S : ByteArray) (ah al : Option Addr) (ch cl : Nat) (hs ls : List Int) (w : World) (hm : S.size ≤ maxLen) (hh : Ints w ah hs) (hl : Ints w al ls) (hhm : hs.length ≤ maxLen) (hlm : ls.length ≤ maxLen) :
    Calls Try.prog 4 #[.string S, lasV ah hs.length ch al ls.length cl] w (Says (.tuple #[.bool (bT hs ls S), .int .i64 (eT hs ls S)]) w) := by
  cases hp : parseQ S with
  | bad c j =>
    have hc := codeQ_bad hp
    have e1 : eT hs ls S = 4 := by unfold eT; rw [if_neg hc]
    have e2 : bT hs ls S = false := by unfold bT; rw [hp]
    rw [e1, e2]
    exact holdsT_bad S ah al ch cl hs.length ls.length w hm hc
  | good f j n t =>
    have hc : codeQ (parseQ S) = 0 := by rw [hp]; rfl
    have e1 : eT hs ls S = lassoF 4 hs ls := by unfold eT; rw [if_pos hc]
    rw [e1]
    by_cases hy : lassoF 4 hs ls = 0
    · rw [bT_good hp hy, hy]
      obtain ⟨m1, m2, m3⟩ := lasso_word hy
      obtain ⟨l1, q1⟩ := mayF_fits m1
      obtain ⟨l2, q2⟩ := mayF_fits m2
      exact holdsT_good S ah al ch cl hs ls w hm f j n t hp hh hl l1 l2 (by omega) hy _ (letters_both q1 q2)
    · have e2 : bT hs ls S = false := by
        unfold bT; rw [hp]
        show (if lassoF 4 hs ls = 0 then _ else _) = _
        rw [if_neg hy]
      rw [e2]
      exact holdsT_las S ah al ch cl hs ls w hm hc hh hl hhm hlm hy
theorem parse_size {S : ByteArray} {f : Fm} {j n t : Nat} (h : parseQ S = .good f j n t) : S.size ≤ 4000 := by
  unfold parseQ at h
  split at h
  · exact TRes.noConfusion h
  · omega
theorem not_same (b : Bool) : (b == !b) = false := by cases b <;> rfl
theorem not_same2 (b : Bool) : ((!b) == b) = false := by cases b <;> rfl
theorem parse_GFp : parseQ (ByteArray.mk #[71, 70, 112]) = .good (.glob (.ev .p)) 3 3 2 := by kernel_rfl
theorem sem_GFp : semT 2 1 (fun j => (([0] ++ [1] : List Int).getD j 0).toNat) (trOf (.glob (.ev .p))) 0 = true := by kernel_rfl
theorem lasso_GFp : lassoF 4 [0] [1] = 0 := by decide
theorem lets_GFp : ∀ j, j < 2 → ([0] ++ [1] : List Int).getD j 0 = (((([0] ++ [1] : List Int).getD j 0).toNat : Nat) : Int) ∧ (([0] ++ [1] : List Int).getD j 0).toNat < 4 := by decide

set_option maxRecDepth 100000 in
theorem tlaws_walk (s t : ByteArray) (ah al : Option Addr) (ch cl : Nat) (hs ls : List Int) (w : World) (hm : s.size ≤ maxLen) (hm2 : t.size ≤ maxLen) (hh : Ints w ah hs) (hl : Ints w al ls) (hhm : hs.length ≤ maxLen) (hlm : ls.length ≤ maxLen) :
    Calls Try.prog 3 #[.string s, .string t, lasV ah hs.length ch al ls.length cl] w (Says (.bool true) w) := by
  have H0 : ∀ (W : World) (g g' : Nat), Ints W (some ⟨g, 0, none⟩) [0] → Ints W (some ⟨g', 0, none⟩) [1] → Calls Try.prog 4 #[.string (ByteArray.mk #[71, 70, 112]), lasV (some ⟨g, 0, none⟩) 1 1 (some ⟨g', 0, none⟩) 1 1] W (Says (.tuple #[.bool true, .int .i64 0]) W) := fun W g g' i0 i1 => by
    have h := holdsT_good (ByteArray.mk #[71, 70, 112]) (some ⟨g, 0, none⟩) (some ⟨g', 0, none⟩) 1 1 [0] [1] W (by unfold maxLen; show (3 : Nat) ≤ _; omega) _ _ _ _ parse_GFp i0 i1 (by decide) (by decide) (by decide) lasso_GFp (fun j => (([0] ++ [1] : List Int).getD j 0).toNat) lets_GFp
    have e : semT (([0] : List Int).length + ([1] : List Int).length) ([0] : List Int).length (fun j => (([0] ++ [1] : List Int).getD j 0).toNat) (trOf (.glob (.ev .p))) 0 = true := sem_GFp
    rw [e] at h
    exact h
  have HK : ∀ (x : ByteArray), x.size ≤ maxLen → ∀ W, w.grownBy W none → Calls Try.prog 5 #[.string x] W fun e w' => e = .returned (.agg #[.int .i64 (codeQ (parseQ x)), .int .i64 ((atQ (parseQ x) : Nat) : Int)]) ∧ W.grownBy w' none := fun x hx W _ => (checkT_any x W hx).mono fun e w' h => ⟨h.1, grown_of_below h.2⟩
  have HS := HK s hm
  have HT := HK t hm2
  have HH : ∀ (S : ByteArray), S.size ≤ maxLen → ∀ W, w.grownBy W none → Calls Try.prog 4 #[.string S, lasV ah hs.length ch al ls.length cl] W (Says (.tuple #[.bool (bT hs ls S), .int .i64 (eT hs ls S)]) W) := fun S hS W hW => holdsT_any S ah al ch cl hs ls W hS (hh.grown hW) (hl.grown hW) hhm hlm
  cases ps : parseQ s with
  | bad c j => exact tlaws_A s t ah al hs.length ch ls.length cl w _ _ _ _ (codeQ_bad ps) H0 HS HT
  | good fs js ns ts =>
    have cs : codeQ (parseQ s) = 0 := by rw [ps]; rfl
    rw [cs] at HS
    cases pt : parseQ t with
    | bad c j => exact tlaws_B s t ah al hs.length ch ls.length cl w 0 _ _ _ (codeQ_bad pt) H0 HS HT
    | good ft jt nt tt =>
      have ct : codeQ (parseQ t) = 0 := by rw [pt]; rfl
      rw [ct] at HT
      have zs := parse_size ps
      have zt := parse_size pt
      have big : ∀ (S : ByteArray), S.size ≤ 20000 → S.size ≤ maxLen := fun S h => by unfold maxLen; omega
      have d1 : (ByteArray.mk #[33, 40]).size = 2 := rfl
      have d2 : (ByteArray.mk #[71, 40]).size = 2 := rfl
      have d3 : (ByteArray.mk #[70, 33, 40]).size = 3 := rfl
      have d4 : (ByteArray.mk #[41]).size = 1 := rfl
      have d5 : (ByteArray.mk #[40]).size = 1 := rfl
      have d6 : (ByteArray.mk #[41, 85, 40]).size = 3 := rfl
      have d7 : (ByteArray.mk #[41, 124, 40, 40]).size = 4 := rfl
      have d8 : (ByteArray.mk #[41, 38, 88, 40, 40]).size = 5 := rfl
      have d9 : (ByteArray.mk #[41, 41, 41]).size = 3 := rfl
      refine tlaws_C s t ah al hs.length ch ls.length cl w 0 0 _ _ zs zt _ _ _ _ _ _ _ _ _ _ _ _ ?_ ?_ ?_ H0 HS HT (HH s hm) (HH ((ByteArray.mk #[33, 40]) ++ s ++ (ByteArray.mk #[41])) (big _ ?_)) (HH ((ByteArray.mk #[71, 40]) ++ s ++ (ByteArray.mk #[41])) (big _ ?_)) (HH ((ByteArray.mk #[70, 33, 40]) ++ s ++ (ByteArray.mk #[41])) (big _ ?_)) (HH ((ByteArray.mk #[40]) ++ s ++ (ByteArray.mk #[41, 85, 40]) ++ t ++ (ByteArray.mk #[41])) (big _ ?_)) (HH ((ByteArray.mk #[40]) ++ t ++ (ByteArray.mk #[41, 124, 40, 40]) ++ s ++ (ByteArray.mk #[41, 38, 88, 40, 40]) ++ s ++ (ByteArray.mk #[41, 85, 40]) ++ t ++ (ByteArray.mk #[41, 41, 41])) (big _ ?_))
      · intro z0 z1
        obtain ⟨f, j, n, tt', hp, hy⟩ := eT_zero z1
        obtain rfl := text_un (c := 33) d1 rfl rfl d4 rfl (.inl rfl) ps hp
        rw [bT_good ps hy, bT_good hp hy, sem_not]
        exact not_same _
      · intro z0 z1
        obtain ⟨f, j, n, tt', hp, hy⟩ := eT_zero z0
        obtain ⟨f2, j2, n2, t2, hp2, _⟩ := eT_zero z1
        obtain rfl := text_un (c := 71) d2 rfl rfl d4 rfl (.inr (.inr (.inr rfl))) ps hp
        obtain rfl := text_two (c := 70) (c' := 33) d3 rfl rfl rfl d4 rfl (.inr (.inr (.inl rfl))) (.inl rfl) ps hp2
        rw [bT_good hp hy, bT_good hp2 hy, sem_always]
        exact not_same2 _
      · intro z0 z1
        obtain ⟨f, j, n, tt', hp, hy⟩ := eT_zero z0
        obtain ⟨f2, j2, n2, t2, hp2, _⟩ := eT_zero z1
        obtain rfl := text_til d5 rfl d6 rfl rfl rfl d4 rfl ps pt hp
        obtain rfl := text_unfold d5 rfl d7 rfl rfl rfl rfl d8 rfl rfl rfl rfl rfl d6 rfl rfl rfl d9 rfl rfl rfl ps pt hp2
        obtain ⟨m1, m2, m3⟩ := lasso_word hy
        rw [bT_good hp hy, bT_good hp2 hy, ← sem_until (by omega) _ fs ft (by omega)]
        exact beq_self_eq_true _
      all_goals
        simp only [ByteArray.size_append, d1, d2, d3, d4, d5, d6, d7, d8, d9]
        omega

theorem tlaws_own : ownKnob Try.prog.godebug = none := by kernel_rfl

set_option maxRecDepth 100000 in
theorem tlaws_lifted (os : Os) (started : os.Started) (H : Type) (enc : TypeId × Value → H) :
    ReturnsInHanded {} Try.checked os 3 .any (Rows.timeLawsSpec.pre6 enc Try.prog Try.f3 Rows.timeLawsRow.domain false) (Rows.timeLawsSpec.post enc Try.prog Try.f3 false true false false) := by
  refine returnsInHanded_of_change (C := Try.checked) tlaws_own started (by kernel_rfl) Try.func3
    (ChangeSpec.witness6 (enc := enc) (C := Try.checked) false ⟨#[], #[.string ByteArray.empty, .string ByteArray.empty, .agg #[.slice none 0 0, .slice none 0 0]], []⟩ 8 (by kernel_rfl) (by kernel_rfl) (by kernel_rfl) (by kernel_rfl)) ?_
  intro W base args ds gs before hval0 hW hcnd _
  have hval : ∀ (j : Nat) t v, Try.f3.params[j]? = some t → args[j]? = some v → Value.okWide Try.prog W .any base t v := hval0
  have hW' := hW
  obtain ⟨p, q, hA0, hV, rfl, hfz, hnd⟩ := hW
  have hA : DataW.TrodAll enc Try.prog W 0 (fun _ => true) true Try.f3.params.toList args.toList ds p := hA0
  rw [Try.params3] at hA hval
  obtain ⟨v0, vs0, d0, ds0, p0, q0, hargs, rfl, rfl, h0, r0⟩ := trodAll_cons hA
  obtain ⟨v1, vs1, d1, ds1, p1, q1, rfl, rfl, rfl, h1, r1⟩ := trodAll_cons r0
  obtain ⟨v2, vs2, d2, ds2, p2, q2, rfl, rfl, rfl, h2, r2⟩ := trodAll_cons r1
  obtain ⟨rfl, rfl, rfl⟩ := trodAll_nil r2
  obtain rfl : args = #[v0, v1, v2] := by cases args; simp_all
  have lt2 : ∀ x ∈ p2, x.block < W.heap.size := by obtain ⟨m, hm⟩ := h2; exact DataW.trod_lt m _ _ _ hm
  obtain ⟨rfl, rfl⟩ := trodVars_none hV
  obtain ⟨s, rfl, rfl, rfl, hs⟩ := open_string Try.underlying9 (hval 0 9 v0 rfl rfl) h0
  obtain ⟨t, rfl, rfl, rfl, ht⟩ := open_string Try.underlying9 (hval 1 9 v1 rfl rfl) h1
  obtain ⟨ah, al, ch, cl, hs2, ls, rfl, hh, hl, hhm, hlm⟩ := las_of_trod (hval 2 24 v2 rfl rfl) h2
  clear hA0 hval0
  refine (tlaws_walk s t ah al ch cl hs2 ls W hs ht hh hl hhm hlm).mono fun e W' ⟨he, hg⟩ => ?_
  subst he
  have bel : Below W.heap.size W W' := below_of_grown hg
  exact ⟨_, rfl, _, _, _, [], _, [], hW', trodAll_mk1 (shut_bool Try.underlying4 _), (trodAll_cons_mk (shut_string Try.underlying9 hs) (trodAll_cons_mk (shut_string Try.underlying9 ht) (trodAll_cons_mk (Below.trod Try.laidOut (by kernel_rfl) (of_decide_eq_true (by kernel_rfl)) h2 bel lt2) trodAll_mk0))), rfl, bel.frame _, fun h => by cases h⟩

theorem timeLaws_holds : Rows.TimeLawsSaid :=
  OpenClaim.holds_of_wide 3 Try.f3 rfl rfl rfl rfl rfl rfl rfl ⟨rfl, rfl, rfl, rfl, rfl⟩ rfl rfl rfl rfl rfl (by kernel_rfl) Try.func3 (by kernel_rfl)
    (of_decide_eq_true (by kernel_rfl)) (by unfold Func.isWrapper; first | (rw [if_pos (by decide +kernel)]; kernel_rfl) | (rw [if_neg (by decide +kernel)]; exact ⟨rfl, rfl⟩))
    (fun os started H enc _ => tlaws_lifted os started H enc)
#print axioms timeLaws_holds
end Go.Proofs.Ytneialmpaiejcaa
