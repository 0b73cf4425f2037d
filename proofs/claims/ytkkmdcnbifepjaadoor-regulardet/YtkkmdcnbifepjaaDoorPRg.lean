/- The greatest letter that is read. No program is in it. -/
/- The reference's list of parts, gone through one by one: what comes of it (no program). -/
import Derived.Test.YtkkmdcnbifepjaaDoorPCm
import Derived.Test.YtkkmdcnbifepjaaDoorRr3
import Derived.Test.YtkkmdcnbifepjaaDoorPDd
namespace Go.Proofs.YtkkmdcnbifepjaaDoor
open Go.RowKit
set_option linter.unusedVariables false

/-- One more than the greatest letter (0: there is none). -/
def mxl : Rx → Nat
  | .none => 0
  | .empty => 0
  | .letter c => c.toNat + 1
  | .alt a b => max (mxl a) (mxl b)
  | .cat a b => max (mxl a) (mxl b)
  | .star a => mxl a
/-- No letter lies below 0. -/
def NN : Rx → Prop
  | .none => True
  | .empty => True
  | .letter c => 0 ≤ c
  | .alt a b => NN a ∧ NN b
  | .cat a b => NN a ∧ NN b
  | .star a => NN a
theorem mxl_star (m : Rx) : mxl (starS m) = mxl m := by cases m <;> rfl
theorem nn_star {m : Rx} (h : NN m) : NN (starS m) := by cases m <;> exact h
theorem mxl_rowS {ms : List Rx} (h : 0 < ms.length) (m : Rx) : mxl (rowOf (ms ++ [m])) = max (mxl (rowOf ms)) (mxl m) := by rw [rowOf_snoc h]; rfl
theorem mxl_eitherS {ms : List Rx} (h : 0 < ms.length) (m : Rx) : mxl (eitherOf (ms ++ [m])) = max (mxl (eitherOf ms)) (mxl m) := by rw [eitherOf_snoc h]; rfl
theorem nn_rowS {ms : List Rx} (h : 0 < ms.length) {m : Rx} (h1 : NN (rowOf ms)) (h2 : NN m) : NN (rowOf (ms ++ [m])) := by rw [rowOf_snoc h]; exact ⟨h1, h2⟩
theorem nn_eitherS {ms : List Rx} (h : 0 < ms.length) {m : Rx} (h1 : NN (eitherOf ms)) (h2 : NN m) : NN (eitherOf (ms ++ [m])) := by rw [eitherOf_snoc h]; exact ⟨h1, h2⟩

section great
variable {s : ByteArray}
def Grt (s : ByteArray) (S : Nat → Nat → Res) : Prop := ∀ i d m j, S i d = .good m j → greatL s j = max (greatL s i) (mxl m) ∧ NN m
theorem greatL_no {i c : Nat} (h : byteAt s i = c) (hc : isL c = false) : greatL s (i + 1) = greatL s i := by
  show (if isL (byteAt s i) = true then _ else _) = _
  rw [h, if_neg (by simp [hc])]
theorem greatL_yes {i : Nat} (h : isL (byteAt s i) = true) : greatL s (i + 1) = max (greatL s i) (byteAt s i - 96) := by
  show (if isL (byteAt s i) = true then _ else _) = _
  rw [if_pos h]
theorem grt_part {W : Nat → Nat → Res} (hW : Grt s W) : Grt s (partS s W) := by
  intro i d m j h
  unfold partS at h
  split at h
  · cases h
  · rename_i hb
    have hb' : beginsF (byteAt s i) = true := by simpa using hb
    split at h
    · rename_i h40
      unfold bracketS at h
      split at h
      · cases h
      · split at h
        · cases h
        · rename_i m' j' hw
          split at h
          · rename_i hc
            cases h
            obtain ⟨h1, h2⟩ := hW _ _ _ _ hw
            exact ⟨by rw [greatL_no hc (by decide), h1, greatL_no h40 (by decide)], h2⟩
          · cases h
    · rename_i h40
      split at h
      · rename_i h48
        cases h
        exact ⟨by rw [greatL_no h48 (by decide)]; exact (Nat.max_eq_left (Nat.zero_le _)).symm, trivial⟩
      · rename_i h48
        split at h
        · rename_i h49
          cases h
          exact ⟨by rw [greatL_no h49 (by decide)]; exact (Nat.max_eq_left (Nat.zero_le _)).symm, trivial⟩
        · rename_i h49
          cases h
          have hl := begins_letter hb' h40 h48 h49
          have hl2 : 97 ≤ byteAt s i := by simp [isL] at hl; exact hl.1
          refine ⟨?_, ?_⟩
          · rw [greatL_yes hl]
            show _ = max _ (((byteAt s i - 97 : Nat) : Int).toNat + 1)
            rw [Int.toNat_natCast]
            congr 1
            omega
          · show (0 : Int) ≤ ((byteAt s i - 97 : Nat) : Int)
            omega
theorem grt_star : ∀ (k : Nat) (m : Rx) (j : Nat) (m' : Rx) (j' : Nat), NN m → starL s k m j = .good m' j' → greatL s j' = greatL s j ∧ mxl m' = mxl m ∧ NN m'
  | 0, m, j, m', j', hn, h => by cases h; exact ⟨rfl, rfl, hn⟩
  | k + 1, m, j, m', j', hn, h => by
    unfold starL at h
    split at h
    · rename_i hc
      obtain ⟨h1, h2, h3⟩ := grt_star k _ _ _ _ (nn_star hn) h
      rw [greatL_no hc (by decide)] at h1
      rw [mxl_star] at h2
      exact ⟨h1, h2, h3⟩
    · cases h; exact ⟨rfl, rfl, hn⟩
theorem grt_one {P : Nat → Nat → Res} (hP : Grt s P) : Grt s (oneS s P) := by
  intro i d m j h
  unfold oneS at h
  split at h
  · cases h
  · rename_i m' j' hp
    obtain ⟨h1, h1'⟩ := hP _ _ _ _ hp
    obtain ⟨h2, h3, h4⟩ := grt_star _ _ _ _ _ h1' h
    exact ⟨by rw [h2, h1, h3], h4⟩
theorem grt_rowX {O : Nat → Nat → Res} (hO : Grt s O) (d : Nat) : ∀ (k : Nat) (ms : List Rx) (j : Nat) (m' : Rx) (j' : Nat), 0 < ms.length → NN (rowOf ms) → ∀ g, greatL s j = max g (mxl (rowOf ms)) → rowX s O d k ms j = .good m' j' → greatL s j' = max g (mxl m') ∧ NN m'
  | 0, ms, j, m', j', hl, hn, g, hg, h => by cases h
  | k + 1, ms, j, m', j', hl, hn, g, hg, h => by
    unfold rowX at h
    split at h
    · split at h
      · cases h
      · rename_i m1 j1 ho
        obtain ⟨h1, h2⟩ := hO _ _ _ _ ho
        exact grt_rowX hO d k _ _ _ _ (by simp) (nn_rowS hl hn h2) g (by rw [h1, hg, mxl_rowS hl]; omega) h
    · cases h; exact ⟨hg, hn⟩
theorem grt_row {O : Nat → Nat → Res} (hO : Grt s O) : Grt s (rowS s O) := by
  intro i d m j h
  unfold rowS at h
  split at h
  · cases h
  · rename_i m' j' hp
    obtain ⟨h1, h2⟩ := hO _ _ _ _ hp
    exact grt_rowX hO _ _ [m'] _ _ _ (by simp) (by rw [rowOf_one]; exact h2) _ (by rw [rowOf_one]; exact h1) h
theorem grt_eitherL {O : Nat → Nat → Res} (hO : Grt s O) (d : Nat) : ∀ (k : Nat) (ms : List Rx) (j : Nat) (m' : Rx) (j' : Nat), 0 < ms.length → NN (eitherOf ms) → ∀ g, greatL s j = max g (mxl (eitherOf ms)) → eitherL s O d k ms j = .good m' j' → greatL s j' = max g (mxl m') ∧ NN m'
  | 0, ms, j, m', j', hl, hn, g, hg, h => by cases h
  | k + 1, ms, j, m', j', hl, hn, g, hg, h => by
    unfold eitherL at h
    split at h
    · rename_i hc
      split at h
      · cases h
      · rename_i m1 j1 ho
        obtain ⟨h1, h2⟩ := hO _ _ _ _ ho
        rw [greatL_no hc (by decide)] at h1
        exact grt_eitherL hO d k _ _ _ _ (by simp) (nn_eitherS hl hn h2) g (by rw [h1, hg, mxl_eitherS hl]; omega) h
    · cases h; exact ⟨hg, hn⟩
theorem grt_either {O : Nat → Nat → Res} (hO : Grt s O) : Grt s (eitherS s O) := by
  intro i d m j h
  unfold eitherS at h
  split at h
  · cases h
  · rename_i m' j' hp
    obtain ⟨h1, h2⟩ := hO _ _ _ _ hp
    exact grt_eitherL hO _ _ [m'] _ _ _ (by simp) (by rw [eitherOf_one]; exact h2) _ (by rw [eitherOf_one]; exact h1) h
theorem grt_whole : ∀ n, Grt s (wholeF s n)
  | 0 => fun _ _ _ _ h => by cases h
  | n + 1 => grt_either (grt_row (grt_one (grt_part (grt_whole n))))
/-- The letters of what is read are those of the text. -/
theorem parse_great {m : Rx} {j : Nat} (h : parseR s = .good m j) : mxl m = greatL s s.size ∧ NN m := by
  obtain ⟨_, _, hw⟩ := parse_end h
  obtain ⟨h1, h2⟩ := grt_whole _ _ _ _ _ hw
  refine ⟨?_, h2⟩
  rw [h1]
  show mxl m = max 0 (mxl m)
  omega
end great

end Go.Proofs.YtkkmdcnbifepjaaDoor

namespace Go.Proofs.YtkkmdcnbifepjaaDoor
open Go.RowKit
set_option linter.unusedVariables false

/-- While the parts are gone through: which places come behind each, the letters of the places, how many there are, and what was found of each part. -/
structure PS where
  bh : Nat → Nat
  sg : Nat → Int
  at_ : Nat
  es : List Rch
def e0 : Rch := ⟨0, 0, false⟩
def p0 : PartR := ⟨0, 0, .slice none 0 0, []⟩
def folF (bh : Nat → Nat) (s t : Nat) : Nat → Nat := fun j => if s.testBit j = true then bh j ||| t else bh j
def kidE (es : List Rch) (kids : List Int) (t : Nat) : Rch := es.getD (kids.getD t 0).toNat e0
def altK (es : List Rch) (kids : List Int) : Nat → Rch
  | 0 => e0
  | t + 1 => altR (altK es kids t) (kidE es kids t)
def catK (es : List Rch) (kids : List Int) : Nat → Rch
  | 0 => ⟨0, 0, true⟩
  | t + 1 => catR (catK es kids t) (kidE es kids t)
def folK (bh : Nat → Nat) (es : List Rch) (kids : List Int) : Nat → Nat → Nat
  | 0 => bh
  | t + 1 => folF (folK bh es kids t) (catK es kids t).last (kidE es kids t).first
def stepS (q : PartR) (S : PS) : PS :=
  if q.kind = 1 then ⟨S.bh, S.sg, S.at_, S.es ++ [⟨0, 0, true⟩]⟩
  else if q.kind = 2 then ⟨S.bh, fun j => if j = S.at_ then q.let_ else S.sg j, S.at_ + 1, S.es ++ [⟨2 ^ S.at_, 2 ^ S.at_, false⟩]⟩
  else if q.kind = 3 then ⟨S.bh, S.sg, S.at_, S.es ++ [altK S.es q.kids q.kids.length]⟩
  else if q.kind = 4 then ⟨folK S.bh S.es q.kids q.kids.length, S.sg, S.at_, S.es ++ [catK S.es q.kids q.kids.length]⟩
  else if q.kind = 5 then ⟨folF S.bh (kidE S.es q.kids 0).last (kidE S.es q.kids 0).first, S.sg, S.at_, S.es ++ [⟨(kidE S.es q.kids 0).first, (kidE S.es q.kids 0).last, true⟩]⟩
  else ⟨S.bh, S.sg, S.at_, S.es ++ [e0]⟩
def runS (ps : List PartR) : Nat → PS
  | 0 => ⟨fun _ => 0, fun _ => 0, 0, []⟩
  | i + 1 => stepS (ps.getD i p0) (runS ps i)
theorem step_es (q : PartR) (S : PS) : ∃ r, (stepS q S).es = S.es ++ [r] := by
  unfold stepS
  split
  · exact ⟨_, rfl⟩
  · split
    · exact ⟨_, rfl⟩
    · split
      · exact ⟨_, rfl⟩
      · split
        · exact ⟨_, rfl⟩
        · split
          · exact ⟨_, rfl⟩
          · exact ⟨_, rfl⟩
theorem run_len (ps : List PartR) : ∀ i, (runS ps i).es.length = i
  | 0 => rfl
  | i + 1 => by
    obtain ⟨r, h⟩ := step_es (ps.getD i p0) (runS ps i)
    show (stepS _ _).es.length = _
    rw [h, List.length_append, run_len ps i]; rfl
theorem run_stay (ps : List PartR) {x : Nat} : ∀ (d i : Nat), x < i → (runS ps (i + d)).es.getD x e0 = (runS ps i).es.getD x e0
  | 0, i, h => rfl
  | d + 1, i, h => by
    obtain ⟨r, hr⟩ := step_es (ps.getD (i + d) p0) (runS ps (i + d))
    show (stepS (ps.getD (i + d) p0) (runS ps (i + d))).es.getD x e0 = _
    rw [hr, ← run_stay ps d i h]
    have hl := run_len ps (i + d)
    simp [List.getD, List.getElem?_append_left (show x < (runS ps (i + d)).es.length by omega)]
theorem run_keep (ps : List PartR) {x i j : Nat} (h : x < i) (hij : i ≤ j) : (runS ps j).es.getD x e0 = (runS ps i).es.getD x e0 := by
  have := run_stay ps (x := x) (j - i) i h
  rwa [show i + (j - i) = j by omega] at this
theorem run_last {ps : List PartR} {i : Nat} {r : Rch} {S : PS} (h : stepS (ps.getD i p0) (runS ps i) = S) (hr : S.es = (runS ps i).es ++ [r]) : (runS ps (i + 1)).es.getD i e0 = r := by
  show (stepS _ _).es.getD i e0 = r
  rw [h, hr]
  have hl := run_len ps i
  simp only [List.getD]
  rw [List.getElem?_append_right (by omega), hl, Nat.sub_self]
  rfl

/-- What was found of a part is what its places say. -/
structure RchIs (m : Rx) (a : Nat) (r : Rch) : Prop where
  em : r.empty = emP m
  fs : ∀ j, r.first.testBit j = true ↔ fsP m a j
  ls : ∀ j, r.last.testBit j = true ↔ lsP m a j
theorem RchIs.alt {m m' : Rx} {a : Nat} {r r' : Rch} (h : RchIs m a r) (h' : RchIs m' (a + nlet m) r') : RchIs (.alt m m') a (altR r r') :=
  ⟨by simp only [altR, emP, h.em, h'.em], fun j => by simp only [altR, Nat.testBit_or, Bool.or_eq_true, fsP]; rw [h.fs, h'.fs], fun j => by simp only [altR, Nat.testBit_or, Bool.or_eq_true, lsP]; rw [h.ls, h'.ls]⟩
theorem RchIs.cat {m m' : Rx} {a : Nat} {r r' : Rch} (h : RchIs m a r) (h' : RchIs m' (a + nlet m) r') : RchIs (.cat m m') a (catR r r') := by
  refine ⟨by simp only [catR, emP, h.em, h'.em], fun j => ?_, fun j => ?_⟩
  · simp only [catR, fsP, h.em]
    cases e : emP m with
    | true => rw [if_pos rfl, Nat.testBit_or, Bool.or_eq_true, h.fs, h'.fs]; simp
    | false => rw [if_neg (by simp), h.fs]; simp
  · simp only [catR, lsP, h'.em]
    cases e : emP m' with
    | true => rw [if_pos rfl, Nat.testBit_or, Bool.or_eq_true, h.ls, h'.ls]; simp [or_comm]
    | false => rw [if_neg (by simp), h'.ls]; simp
theorem rch_none (a : Nat) : RchIs .none a e0 := ⟨rfl, fun j => by simp [e0, fsP], fun j => by simp [e0, lsP]⟩
theorem rch_empty (a : Nat) : RchIs .empty a ⟨0, 0, true⟩ := ⟨rfl, fun j => by simp [fsP], fun j => by simp [lsP]⟩
theorem folF_bit (bh : Nat → Nat) (s t i j : Nat) : (folF bh s t i).testBit j = true ↔ (bh i).testBit j = true ∨ (s.testBit i = true ∧ t.testBit j = true) := by
  unfold folF
  by_cases h : s.testBit i = true
  · rw [if_pos h, Nat.testBit_or]; simp [h]
  · rw [if_neg h]; simp [h]
theorem altR_e0 (r : Rch) : altR e0 r = r := by simp [altR, e0]
theorem catR_one (r : Rch) : catR ⟨0, 0, true⟩ r = r := by
  obtain ⟨f, l, e⟩ := r
  cases e <;> simp [catR]

/-- What a stretch of parts does. -/
structure Seg (S S' : PS) (m : Rx) : Prop where
  at_ : S'.at_ = S.at_ + nlet m
  fl : ∀ i j, (S'.bh i).testBit j = true ↔ (S.bh i).testBit j = true ∨ flP m S.at_ i j
  old : ∀ j, j < S.at_ → S'.sg j = S.sg j
  lt : ∀ j l, S.at_ ≤ j → j < S'.at_ → (ltP m S.at_ j l ↔ l = (S'.sg j).toNat)
theorem Seg.none (S : PS) : Seg S S .none := ⟨rfl, fun i j => by simp [flP], fun _ _ => rfl, fun j l h1 h2 => by omega⟩
theorem Seg.empty (S : PS) : Seg S S .empty := ⟨rfl, fun i j => by simp [flP], fun _ _ => rfl, fun j l h1 h2 => by omega⟩
theorem Seg.alt {S S' S'' : PS} {m m' : Rx} (h : Seg S S' m) (h' : Seg S' S'' m') : Seg S S'' (.alt m m') := by
  have e := h.at_
  have e' := h'.at_
  refine ⟨by rw [e', e]; simp only [nlet]; omega, fun i j => ?_, fun j hj => ?_, fun j l h1 h2 => ?_⟩
  · rw [h'.fl, h.fl, e]; simp only [flP]; rw [or_assoc]
  · rw [h'.old j (by omega), h.old j hj]
  · simp only [ltP]
    by_cases hj : j < S'.at_
    · rw [h'.old j hj, ← h.lt j l h1 hj]
      refine ⟨fun x => ?_, .inl⟩
      rcases x with x | x
      · exact x
      · have := ltP_in _ _ _ _ x; omega
    · rw [← h'.lt j l (by omega) h2, e]
      refine ⟨fun x => ?_, .inr⟩
      rcases x with x | x
      · have := ltP_in _ _ _ _ x; omega
      · exact x

/-- Kids one behind the other, as if they were one either. -/
structure Kds (ps : List PartR) (st : Nat) (qs : List Nat) (ms : List Rx) (t : Nat) : Prop where
  seg : Seg (runS ps st) (runS ps (begK st qs t)) (eitherOf (ms.take t))
  rch : ∀ i, i < t → RchIs (ms.getD i noneS) (runS ps (begK st qs i)).at_ ((runS ps (begK st qs t)).es.getD (qs.getD i 0) e0)
  lt : ∀ i, i < t → qs.getD i 0 < begK st qs t
theorem take_snoc {ms : List Rx} {k : Nat} (h : k < ms.length) : ms.take (k + 1) = ms.take k ++ [ms.getD k noneS] := by rw [List.take_add_one]; simp [List.getD, h]
theorem Seg.snoc {S S' S'' : PS} {ms : List Rx} {t : Nat} (ht : t < ms.length) (h : Seg S S' (eitherOf (ms.take t))) (h' : Seg S' S'' (ms.getD t noneS)) : Seg S S'' (eitherOf (ms.take (t + 1))) := by
  rw [take_snoc ht]
  by_cases h0 : t = 0
  · subst h0
    simp only [List.take_zero, List.nil_append, eitherOf_one]
    have hn : Seg S S' .none := h
    have e1 := hn.at_
    simp only [nlet, Nat.add_zero] at e1
    refine ⟨by rw [h'.at_, e1], fun i j => ?_, fun j hj => ?_, fun j l h1 h2 => ?_⟩
    · rw [h'.fl, hn.fl, e1]; simp [flP]
    · rw [h'.old j (by omega), hn.old j hj]
    · have := h'.lt j l (by omega) h2; rwa [e1] at this
  · rw [eitherOf_snoc (by rw [List.length_take]; omega)]
    exact h.alt h'
theorem nlet_both {ms : List Rx} : ∀ t, t ≤ ms.length → nlet (rowOf (ms.take t)) = nlet (eitherOf (ms.take t))
  | 0, _ => rfl
  | t + 1, h => by rw [nlet_row (by omega), nlet_either (by omega), nlet_both t (by omega)]
theorem kidE_at {es : List Rch} {p : PartR} {qs : List Nat} (hq : p.kids = qs.map Int.ofNat) (t : Nat) : kidE es p.kids t = es.getD (qs.getD t 0) e0 := by
  unfold kidE
  rw [hq]
  congr 1
  simp only [List.getD, List.getElem?_map]
  cases qs[t]? <;> rfl
theorem get_of {ps : List PartR} {k : Nat} {p : PartR} (h : ps[k]? = some p) : ps.getD k p0 = p := by simp [List.getD, h]
/-- An either's parts. -/
theorem alt_is {ps : List PartR} {st : Nat} {qs : List Nat} {ms : List Rx} {p : PartR} {es : List Rch} (hq : p.kids = qs.map Int.ofNat) (a : Nat) (hn : ∀ t, t ≤ ms.length → (runS ps (begK st qs t)).at_ = a + nlet (eitherOf (ms.take t)))
    (hr : ∀ i, i < ms.length → RchIs (ms.getD i noneS) (runS ps (begK st qs i)).at_ (es.getD (qs.getD i 0) e0)) : ∀ t, t ≤ ms.length → RchIs (eitherOf (ms.take t)) a (altK es p.kids t)
  | 0, _ => rch_none a
  | t + 1, h => by
    have ih := alt_is hq a hn hr t (by omega)
    have h1 := hr t (by omega)
    rw [hn t (by omega)] at h1
    show RchIs _ _ (altR _ _)
    rw [kidE_at hq, take_snoc (by omega)]
    by_cases h0 : t = 0
    · subst h0
      simp only [List.take_zero, List.nil_append, eitherOf_one, altK, altR_e0]
      exact h1
    · rw [eitherOf_snoc (by rw [List.length_take]; omega)]
      exact ih.alt h1
theorem cat_is {ps : List PartR} {st : Nat} {qs : List Nat} {ms : List Rx} {p : PartR} {es : List Rch} (hq : p.kids = qs.map Int.ofNat) (a : Nat) (hn : ∀ t, t ≤ ms.length → (runS ps (begK st qs t)).at_ = a + nlet (eitherOf (ms.take t)))
    (hr : ∀ i, i < ms.length → RchIs (ms.getD i noneS) (runS ps (begK st qs i)).at_ (es.getD (qs.getD i 0) e0)) : ∀ t, t ≤ ms.length → RchIs (rowOf (ms.take t)) a (catK es p.kids t)
  | 0, _ => rch_empty a
  | t + 1, h => by
    have ih := cat_is hq a hn hr t (by omega)
    have h1 := hr t (by omega)
    rw [hn t (by omega), ← nlet_both t (by omega)] at h1
    show RchIs _ _ (catR _ _)
    rw [kidE_at hq, take_snoc (by omega)]
    by_cases h0 : t = 0
    · subst h0
      simp only [List.take_zero, List.nil_append, rowOf_one, catK, catR_one]
      exact h1
    · rw [rowOf_snoc (by rw [List.length_take]; omega)]
      exact ih.cat h1
/-- A row's parts: what comes behind what. -/
theorem fol_is {ps : List PartR} {st : Nat} {qs : List Nat} {ms : List Rx} {p : PartR} {es : List Rch} {bh b0 : Nat → Nat} (hq : p.kids = qs.map Int.ofNat) (a : Nat) (hn : ∀ t, t ≤ ms.length → (runS ps (begK st qs t)).at_ = a + nlet (eitherOf (ms.take t)))
    (hr : ∀ i, i < ms.length → RchIs (ms.getD i noneS) (runS ps (begK st qs i)).at_ (es.getD (qs.getD i 0) e0)) (hb : ∀ i j, (bh i).testBit j = true ↔ (b0 i).testBit j = true ∨ flP (eitherOf ms) a i j) :
    ∀ t, t ≤ ms.length → (∀ i j, (folK bh es p.kids t i).testBit j = true ↔ (b0 i).testBit j = true ∨ flP (eitherOf ms) a i j ∨ flP (rowOf (ms.take t)) a i j) ∧ (∀ i j, flP (eitherOf (ms.take t)) a i j → flP (rowOf (ms.take t)) a i j)
  | 0, _ => ⟨fun i j => by rw [show folK bh es p.kids 0 = bh from rfl, hb]; simp [rowOf, flP], fun i j h => by simp [eitherOf, flP] at h⟩
  | t + 1, h => by
    obtain ⟨ih, ih2⟩ := fol_is hq a hn hr hb t (by omega)
    have h1 := hr t (by omega)
    rw [hn t (by omega), ← nlet_both t (by omega)] at h1
    have hc := cat_is hq a hn hr t (by omega)
    have key : ∀ i j, flP (rowOf (ms.take (t + 1))) a i j ↔ flP (rowOf (ms.take t)) a i j ∨ flP (ms.getD t noneS) (a + nlet (rowOf (ms.take t))) i j ∨ (lsP (rowOf (ms.take t)) a i ∧ fsP (ms.getD t noneS) (a + nlet (rowOf (ms.take t))) j) := fun i j => by
      rw [take_snoc (by omega)]
      by_cases h0 : t = 0
      · subst h0
        simp only [List.take_zero, List.nil_append, rowOf_one]
        simp [rowOf, flP, lsP, nlet]
      · rw [rowOf_snoc (by rw [List.length_take]; omega)]; rfl
    have key2 : ∀ i j, flP (eitherOf (ms.take (t + 1))) a i j ↔ flP (eitherOf (ms.take t)) a i j ∨ flP (ms.getD t noneS) (a + nlet (eitherOf (ms.take t))) i j := fun i j => by
      rw [take_snoc (by omega)]
      by_cases h0 : t = 0
      · subst h0
        simp only [List.take_zero, List.nil_append, eitherOf_one]
        simp [eitherOf, flP, nlet]
      · rw [eitherOf_snoc (by rw [List.length_take]; omega)]; rfl
    have up : ∀ t' i j, t' ≤ ms.length → flP (eitherOf (ms.take t')) a i j → flP (eitherOf ms) a i j := by
      intro t' i j ht'
      have go : ∀ d t', t' + d = ms.length → flP (eitherOf (ms.take t')) a i j → flP (eitherOf ms) a i j := by
        intro d
        induction d with
        | zero => intro t' e h; rwa [List.take_of_length_le (by omega)] at h
        | succ d ihd =>
          intro t' e h
          refine ihd (t' + 1) (by omega) ?_
          rw [take_snoc (by omega)]
          by_cases h0 : t' = 0
          · subst h0; simp [eitherOf, flP] at h
          · rw [eitherOf_snoc (by rw [List.length_take]; omega)]; exact .inl h
      exact go (ms.length - t') t' (by omega)
    refine ⟨fun i j => ?_, fun i j h => ?_⟩
    · show (folF _ _ _ i).testBit j = true ↔ _
      rw [folF_bit, ih, kidE_at hq, hc.ls, h1.fs, key]
      constructor
      · rintro ((h | h | h) | h)
        · exact .inl h
        · exact .inr (.inl h)
        · exact .inr (.inr (.inl h))
        · exact .inr (.inr (.inr (.inr h)))
      · rintro (h | h | h | h | h)
        · exact .inl (.inl h)
        · exact .inl (.inr (.inl h))
        · exact .inl (.inr (.inr h))
        · rw [nlet_both t (by omega)] at h
          exact .inl (.inr (.inl (up (t + 1) i j (by omega) ((key2 i j).2 (.inr h)))))
        · exact .inr h
    · rw [key]
      rcases (key2 i j).1 h with h | h
      · exact .inl (ih2 i j h)
      · rw [nlet_both t (by omega)]; exact .inr (.inl h)

theorem means_seg {ps : List PartR} {st k : Nat} {m : Rx} (h : Means ps st k m) : st ≤ k ∧ k < ps.length ∧ Seg (runS ps st) (runS ps (k + 1)) m ∧ RchIs m (runS ps st).at_ ((runS ps (k + 1)).es.getD k e0) := by
  have kds : ∀ {st : Nat} {qs : List Nat} {ms : List Rx}, (∀ i, i < ms.length → begK st qs i ≤ qs.getD i 0 ∧ qs.getD i 0 < ps.length ∧ Seg (runS ps (begK st qs i)) (runS ps (qs.getD i 0 + 1)) (ms.getD i noneS) ∧ RchIs (ms.getD i noneS) (runS ps (begK st qs i)).at_ ((runS ps (qs.getD i 0 + 1)).es.getD (qs.getD i 0) e0)) → ∀ t, t ≤ ms.length → Kds ps st qs ms t ∧ st ≤ begK st qs t := by
    intro st qs ms ih t
    induction t with
    | zero => intro _; exact ⟨⟨Seg.none _, fun i hi => by omega, fun i hi => by omega⟩, Nat.le_refl _⟩
    | succ t iht =>
      intro ht
      obtain ⟨hk, hs⟩ := iht (by omega)
      obtain ⟨h1, h2, h3, h4⟩ := ih t (by omega)
      have eb : begK st qs (t + 1) = qs.getD t 0 + 1 := by unfold begK; rw [if_neg (by omega), Nat.add_sub_cancel]
      refine ⟨⟨?_, fun i hi => ?_, fun i hi => ?_⟩, by rw [eb]; omega⟩
      · rw [eb]; exact hk.seg.snoc (by omega) h3
      · rw [eb]
        by_cases e : i = t
        · subst e; exact h4
        · have := hk.rch i (by omega)
          have hl := hk.lt i (by omega)
          rwa [← run_keep ps hl (show begK st qs t ≤ qs.getD t 0 + 1 by omega)] at this
      · rw [eb]
        by_cases e : i = t
        · subst e; omega
        · have := hk.lt i (by omega); omega
  induction h with
  | none k p h hk =>
    have hs : stepS (ps.getD k p0) (runS ps k) = ⟨(runS ps k).bh, (runS ps k).sg, (runS ps k).at_, (runS ps k).es ++ [e0]⟩ := by rw [get_of h]; unfold stepS; rw [hk]; simp
    refine ⟨Nat.le_refl _, (List.getElem?_eq_some_iff.1 h).1, ?_, ?_⟩
    · show Seg _ (stepS _ _) _
      rw [hs]
      exact ⟨rfl, fun i j => by simp [flP, noneS], fun _ _ => rfl, fun j l h1 h2 => by simp at h2; omega⟩
    · rw [run_last hs rfl]; exact rch_none _
  | empty k p h hk =>
    have hs : stepS (ps.getD k p0) (runS ps k) = ⟨(runS ps k).bh, (runS ps k).sg, (runS ps k).at_, (runS ps k).es ++ [⟨0, 0, true⟩]⟩ := by rw [get_of h]; unfold stepS; rw [if_pos hk]
    refine ⟨Nat.le_refl _, (List.getElem?_eq_some_iff.1 h).1, ?_, ?_⟩
    · show Seg _ (stepS _ _) _
      rw [hs]
      exact ⟨rfl, fun i j => by simp [flP, emptyS], fun _ _ => rfl, fun j l h1 h2 => by simp at h2; omega⟩
    · rw [run_last hs rfl]; exact rch_empty _
  | letter k p h hk =>
    have hs : stepS (ps.getD k p0) (runS ps k) = ⟨(runS ps k).bh, fun j => if j = (runS ps k).at_ then p.let_ else (runS ps k).sg j, (runS ps k).at_ + 1, (runS ps k).es ++ [⟨2 ^ (runS ps k).at_, 2 ^ (runS ps k).at_, false⟩]⟩ := by rw [get_of h]; unfold stepS; rw [if_neg (by omega), if_pos hk]
    refine ⟨Nat.le_refl _, (List.getElem?_eq_some_iff.1 h).1, ?_, ?_⟩
    · show Seg _ (stepS _ _) _
      rw [hs]
      refine ⟨rfl, fun i j => by simp [flP, letterS], fun j hj => by simp only; rw [if_neg (by omega)], fun j l h1 h2 => ?_⟩
      simp only at h2 ⊢
      have e : j = (runS ps k).at_ := by omega
      subst e
      rw [if_pos rfl]
      simp [ltP, letterS]
    · rw [run_last hs rfl]
      exact ⟨rfl, fun j => by simp only [fsP, letterS, Nat.testBit_two_pow, decide_eq_true_eq]; exact eq_comm, fun j => by simp only [lsP, letterS, Nat.testBit_two_pow, decide_eq_true_eq]; exact eq_comm⟩
  | either st k p qs ms h hk h0 hq hl hm he ih =>
    have K := kds ih
    obtain ⟨Kl, hst⟩ := K ms.length (Nat.le_refl _)
    have hrc := Kl.rch
    have hsg := Kl.seg
    rw [he] at hrc hsg
    rw [List.take_length] at hsg
    have hkl : p.kids.length = ms.length := by rw [hq, List.length_map, hl]
    have hs : stepS (ps.getD k p0) (runS ps k) = ⟨(runS ps k).bh, (runS ps k).sg, (runS ps k).at_, (runS ps k).es ++ [altK (runS ps k).es p.kids p.kids.length]⟩ := by rw [get_of h]; unfold stepS; rw [if_neg (by omega), if_neg (by omega), if_pos hk]
    refine ⟨by omega, (List.getElem?_eq_some_iff.1 h).1, ?_, ?_⟩
    · show Seg _ (stepS _ _) _
      rw [hs]
      exact ⟨hsg.at_, hsg.fl, hsg.old, hsg.lt⟩
    · rw [run_last hs rfl, hkl]
      have := alt_is (ps := ps) (st := st) (ms := ms) (es := (runS ps k).es) hq (runS ps st).at_ (fun t ht => (K t ht).1.seg.at_) hrc ms.length (Nat.le_refl _)
      rwa [List.take_length] at this
  | row st k p qs ms h hk h0 hq hl hm he ih =>
    have K := kds ih
    obtain ⟨Kl, hst⟩ := K ms.length (Nat.le_refl _)
    have hrc := Kl.rch
    have hsg := Kl.seg
    rw [he] at hrc hsg
    rw [List.take_length] at hsg
    have hkl : p.kids.length = ms.length := by rw [hq, List.length_map, hl]
    have hs : stepS (ps.getD k p0) (runS ps k) = ⟨folK (runS ps k).bh (runS ps k).es p.kids p.kids.length, (runS ps k).sg, (runS ps k).at_, (runS ps k).es ++ [catK (runS ps k).es p.kids p.kids.length]⟩ := by rw [get_of h]; unfold stepS; rw [if_neg (by omega), if_neg (by omega), if_neg (by omega), if_pos hk]
    have hnb : nlet (rowOf ms) = nlet (eitherOf ms) := by have := nlet_both (ms := ms) ms.length (Nat.le_refl _); rwa [List.take_length] at this
    have hlt : ∀ t, t ≤ ms.length → ∀ a j l, ltP (rowOf (ms.take t)) a j l ↔ ltP (eitherOf (ms.take t)) a j l := by
      intro t
      induction t with
      | zero => intro _ a j l; simp [rowOf, eitherOf, ltP]
      | succ t iht =>
        intro ht a j l
        rw [take_snoc (by omega)]
        by_cases h00 : t = 0
        · subst h00; simp only [List.take_zero, List.nil_append, rowOf_one, eitherOf_one]
        · rw [rowOf_snoc (by rw [List.length_take]; omega), eitherOf_snoc (by rw [List.length_take]; omega)]
          show ltP _ _ _ _ ∨ _ ↔ ltP _ _ _ _ ∨ _
          rw [iht (by omega), nlet_both t (by omega)]
    have hlt' := hlt ms.length (Nat.le_refl _)
    rw [List.take_length] at hlt'
    obtain ⟨f1, f2⟩ := fol_is (ps := ps) (st := st) (ms := ms) (es := (runS ps k).es) (bh := (runS ps k).bh) (b0 := (runS ps st).bh) hq (runS ps st).at_ (fun t ht => (K t ht).1.seg.at_) hrc hsg.fl ms.length (Nat.le_refl _)
    rw [List.take_length] at f1 f2
    refine ⟨by omega, (List.getElem?_eq_some_iff.1 h).1, ?_, ?_⟩
    · show Seg _ (stepS _ _) _
      rw [hs, hkl]
      refine ⟨by rw [hnb]; exact hsg.at_, fun i j => ?_, hsg.old, fun j l h1 h2 => by rw [hlt']; exact hsg.lt j l h1 h2⟩
      rw [f1]
      exact ⟨fun x => x.imp id fun x => x.elim (f2 i j) id, fun x => x.imp id .inr⟩
    · rw [run_last hs rfl, hkl]
      have := cat_is (ps := ps) (st := st) (ms := ms) (es := (runS ps k).es) hq (runS ps st).at_ (fun t ht => (K t ht).1.seg.at_) hrc ms.length (Nat.le_refl _)
      rwa [List.take_length] at this
  | star st k p q m h hk hq hm he ih =>
    obtain ⟨h1, h2, h3, h4⟩ := ih
    subst he
    have hkd : kidE (runS ps (q + 1)).es p.kids 0 = (runS ps (q + 1)).es.getD q e0 := by unfold kidE; rw [hq]; rfl
    have hs : stepS (ps.getD (q + 1) p0) (runS ps (q + 1)) = ⟨folF (runS ps (q + 1)).bh ((runS ps (q + 1)).es.getD q e0).last ((runS ps (q + 1)).es.getD q e0).first, (runS ps (q + 1)).sg, (runS ps (q + 1)).at_, (runS ps (q + 1)).es ++ [⟨((runS ps (q + 1)).es.getD q e0).first, ((runS ps (q + 1)).es.getD q e0).last, true⟩]⟩ := by rw [get_of h]; unfold stepS; rw [if_neg (by omega), if_neg (by omega), if_neg (by omega), if_neg (by omega), if_pos hk, hkd]
    have key : ∀ i j, flP (starS m) (runS ps st).at_ i j ↔ flP m (runS ps st).at_ i j ∨ (lsP m (runS ps st).at_ i ∧ fsP m (runS ps st).at_ j) := by
      intro i j
      cases m with
      | star m => simp only [starS, flP, lsP, fsP]; exact ⟨.inl, fun x => x.elim id .inr⟩
      | _ => rfl
    have kls : ∀ j, lsP (starS m) (runS ps st).at_ j ↔ lsP m (runS ps st).at_ j := fun j => by cases m <;> rfl
    have kfs : ∀ j, fsP (starS m) (runS ps st).at_ j ↔ fsP m (runS ps st).at_ j := fun j => by cases m <;> rfl
    have klt : ∀ j l, ltP (starS m) (runS ps st).at_ j l ↔ ltP m (runS ps st).at_ j l := fun j l => by cases m <;> rfl
    refine ⟨by omega, (List.getElem?_eq_some_iff.1 h).1, ?_, ?_⟩
    · show Seg _ (stepS _ _) _
      rw [hs]
      refine ⟨by rw [nlet_star]; exact h3.at_, fun i j => ?_, h3.old, fun j l a b => by rw [klt]; exact h3.lt j l a b⟩
      rw [folF_bit, h3.fl, h4.ls, h4.fs, key, or_assoc]
    · rw [run_last hs rfl]
      exact ⟨by cases m <;> rfl, fun j => by rw [kfs]; exact h4.fs j, fun j => by rw [kls]; exact h4.ls j⟩

/-- The greatest letter so far (-1: none). -/
def glS (ps : List PartR) : Nat → Int
  | 0 => -1
  | i + 1 => if (ps.getD i p0).kind = 2 ∧ glS ps i < (ps.getD i p0).let_ then (ps.getD i p0).let_ else glS ps i
theorem glS_no {ps : List PartR} {k : Nat} {p : PartR} (h : ps[k]? = some p) (hk : p.kind ≠ 2) : glS ps (k + 1) = glS ps k := by
  show (if _ ∧ _ then _ else _) = _
  rw [get_of h, if_neg (fun x => hk x.1)]
theorem glS_ge (ps : List PartR) : ∀ i, -1 ≤ glS ps i
  | 0 => by simp [glS]
  | i + 1 => by
    have := glS_ge ps i
    unfold glS
    split
    · omega
    · exact this
theorem means_great {ps : List PartR} {st k : Nat} {m : Rx} (h : Means ps st k m) (hn : NN m) : glS ps (k + 1) = max (glS ps st) ((mxl m : Int) - 1) := by
  have nnE : ∀ {ms : List Rx} t, t ≤ ms.length → NN (eitherOf ms) → ∀ i, i < ms.length → NN (ms.getD i noneS) := by
    intro ms t _ hh i hi
    cases ms with
    | nil => simp at hi
    | cons a ms =>
      have go : ∀ (ms : List Rx) (a : Rx), NN (ms.foldl .alt a) → NN a ∧ ∀ i, i < ms.length → NN (ms.getD i noneS) := by
        intro ms
        induction ms with
        | nil => intro a h; exact ⟨h, fun i hi => by simp at hi⟩
        | cons b ms ihm =>
          intro a h
          obtain ⟨h1, h2⟩ := ihm _ h
          refine ⟨h1.1, fun i hi => ?_⟩
          cases i with
          | zero => simpa using h1.2
          | succ i => simpa using h2 i (by simpa using hi)
      obtain ⟨h1, h2⟩ := go ms a hh
      cases i with
      | zero => simpa using h1
      | succ i => simpa using h2 i (by simpa using hi)
  have nnR : ∀ {ms : List Rx}, NN (rowOf ms) → ∀ i, i < ms.length → NN (ms.getD i noneS) := by
    intro ms hh i hi
    cases ms with
    | nil => simp at hi
    | cons a ms =>
      have go : ∀ (ms : List Rx) (a : Rx), NN (ms.foldl .cat a) → NN a ∧ ∀ i, i < ms.length → NN (ms.getD i noneS) := by
        intro ms
        induction ms with
        | nil => intro a h; exact ⟨h, fun i hi => by simp at hi⟩
        | cons b ms ihm =>
          intro a h
          obtain ⟨h1, h2⟩ := ihm _ h
          refine ⟨h1.1, fun i hi => ?_⟩
          cases i with
          | zero => simpa using h1.2
          | succ i => simpa using h2 i (by simpa using hi)
      obtain ⟨h1, h2⟩ := go ms a hh
      cases i with
      | zero => simpa using h1
      | succ i => simpa using h2 i (by simpa using hi)
  have mxE : ∀ {ms : List Rx} {k : Nat}, k < ms.length → mxl (eitherOf (ms.take (k + 1))) = max (mxl (eitherOf (ms.take k))) (mxl (ms.getD k noneS)) := by
    intro ms k h
    rw [take_snoc h]
    by_cases h0 : k = 0
    · subst h0; simp [eitherOf, mxl]
    · rw [mxl_eitherS (by rw [List.length_take]; omega)]
  have mxR : ∀ {ms : List Rx} t, t ≤ ms.length → mxl (rowOf (ms.take t)) = mxl (eitherOf (ms.take t)) := by
    intro ms t
    induction t with
    | zero => intro _; rfl
    | succ t iht =>
      intro ht
      rw [mxE (by omega), take_snoc (by omega)]
      by_cases h0 : t = 0
      · subst h0; simp [rowOf, eitherOf, mxl]
      · rw [mxl_rowS (by rw [List.length_take]; omega), iht (by omega)]
  have kds : ∀ {st : Nat} {qs : List Nat} {ms : List Rx}, (∀ i, i < ms.length → glS ps (qs.getD i 0 + 1) = max (glS ps (begK st qs i)) ((mxl (ms.getD i noneS) : Int) - 1)) → ∀ t, t ≤ ms.length → glS ps (begK st qs t) = max (glS ps st) ((mxl (eitherOf (ms.take t)) : Int) - 1) := by
    intro st qs ms ih t
    induction t with
    | zero => intro _; have := glS_ge ps st; show glS ps st = max _ _; simp [eitherOf, mxl]; omega
    | succ t iht =>
      intro ht
      have eb : begK st qs (t + 1) = qs.getD t 0 + 1 := by unfold begK; rw [if_neg (by omega), Nat.add_sub_cancel]
      rw [eb, ih t (by omega), iht (by omega), mxE (by omega)]
      omega
  induction h with
  | none k p h hk => rw [glS_no h (by omega)]; have := glS_ge ps k; simp [noneS, mxl]; omega
  | empty k p h hk => rw [glS_no h (by omega)]; have := glS_ge ps k; simp [emptyS, mxl]; omega
  | letter k p h hk =>
    have hc : 0 ≤ p.let_ := hn
    show (if _ ∧ _ then _ else _) = _
    rw [get_of h]
    simp only [letterS, mxl]
    by_cases h1 : glS ps k < p.let_
    · rw [if_pos ⟨hk, h1⟩]; omega
    · rw [if_neg (fun x => h1 x.2)]; omega
  | either st k p qs ms h hk h0 hq hl hm he ih =>
    have := kds (fun i hi => ih i hi (nnE ms.length (Nat.le_refl _) hn i hi)) ms.length (Nat.le_refl _)
    rw [he, List.take_length] at this
    rw [glS_no h (by omega), this]
  | row st k p qs ms h hk h0 hq hl hm he ih =>
    have := kds (fun i hi => ih i hi (nnR hn i hi)) ms.length (Nat.le_refl _)
    have e := mxR (ms := ms) ms.length (Nat.le_refl _)
    rw [he, List.take_length] at this
    rw [List.take_length] at e
    rw [glS_no h (by omega), this, e]
  | star st k p q m h hk hq hm he ih =>
    subst he
    have hn' : NN m := by cases m <;> exact hn
    rw [glS_no h (by omega), ih hn', mxl_star]

end Go.Proofs.YtkkmdcnbifepjaaDoor
