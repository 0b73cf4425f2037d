/- For det.classesOf: what is read and put behind. -/
import Derived.Test.YtofjboelplknhaaHBackD
import Derived.Test.YtofjboelplknhaaHClone
namespace Go.Proofs.Ytofjboelplknhaa
open Go.RowKit
set_option linter.unusedVariables false

/-- The states that accept, of the first i. -/
def accL (m : Nat → Bool) (i : Nat) : List Nat := (List.range i).filter m
theorem accL_snoc (m : Nat → Bool) (i : Nat) : accL m (i + 1) = if m i = true then accL m i ++ [i] else accL m i := by
  simp only [accL, List.range_succ, List.filter_append, List.filter_cons, List.filter_nil]
  split <;> simp
theorem accL_len (m : Nat → Bool) (i : Nat) : (accL m i).length ≤ i := by have := List.length_filter_le m (List.range i); simpa [accL] using this
theorem accL_mem {m : Nat → Bool} {i s : Nat} : s ∈ accL m i ↔ s < i ∧ m s = true := by simp [accL]
theorem PartOf.congr {n K K' : Nat} {c c' : Nat → Nat} {S S' : Nat → Prop} (h : PartOf n K c S K' c') (he : ∀ s, s < n → (S s ↔ S' s)) : PartOf n K c S' K' c' :=
  ⟨h.le, h.keep, fun s t hs ht => by rw [h.same s t hs ht, he s hs, he t ht]⟩

theorem mem_cls {n K k : Nat} {o p c b e : Nat → Nat} (h : Parted n K o p c b e) (hk : k < K) (x : Nat) : x ∈ (List.range (e k - b k)).map (fun i => o (b k + i)) ↔ x < n ∧ c x = k := by
  have he := h.en k hk
  simp only [List.mem_map, List.mem_range]
  constructor
  · rintro ⟨i, hi, rfl⟩
    exact ⟨h.on _ (by omega), h.co k hk _ (by omega) (by omega)⟩
  · rintro ⟨hx, hc⟩
    have := (h.mem hk hx).1 hc
    exact ⟨p x - b k, by omega, by rw [show b k + (p x - b k) = p x by omega, h.op x hx]⟩
theorem nodup_cls {n K k : Nat} {o p c b e : Nat → Nat} (h : Parted n K o p c b e) (hk : k < K) : ((List.range (e k - b k)).map (fun i => o (b k + i))).Nodup := by
  have he := h.en k hk
  rw [List.nodup_iff_pairwise_ne, List.pairwise_map]
  refine List.Pairwise.imp_of_mem ?_ (List.nodup_iff_pairwise_ne.1 List.nodup_range)
  intro i j hi hj hij e1
  have hi := List.mem_range.1 hi
  have hj := List.mem_range.1 hj
  have h1 := h.po (b k + i) (by omega)
  have h2 := h.po (b k + j) (by omega)
  rw [e1, h2] at h1
  omega

theorem Owns.sublist {B : Nat} {w : World} {its its' : List Item} (h : Owns B w its) (hs : its'.Sublist its) : Owns B w its' := ⟨fun it hm => h.1 it (hs.subset hm), h.2.sublist hs⟩
/-- All that come to the first i of a list. -/
def fromL (δ : Nat → Nat → Nat) (n x : Nat) (ms : List Nat) (i : Nat) : List Nat := (ms.take i).flatMap (backL δ n x)
theorem fromL_snoc {δ : Nat → Nat → Nat} {n x i : Nat} {ms : List Nat} (h : i < ms.length) : fromL δ n x ms (i + 1) = fromL δ n x ms i ++ backL δ n x (ms.getD i 0) := by
  unfold fromL
  rw [List.take_add_one, List.flatMap_append]
  simp [List.getD, h]
/-- A row is put behind another one: whatever it holds. -/
theorem app_any {B : Nat} {w : World} {its : List Item} {aF ax : Option Addr} {cF cx : Nat} {F xs : List Int} (h : Owns B w ((3, .slice aF F.length cF, vals F) :: its)) (hB : B ≤ w.heap.size) (hm : (3, Value.slice ax xs.length cx, vals xs) ∈ its) (hl : F.length + xs.length ≤ 100000) :
    ∃ aF' cF' w', (AppS #[23, 23] 23 #[.slice aF F.length cF, .slice ax xs.length cx]).run Try.prog w = .ok (.slice aF' (F.length + xs.length) cF') w' ∧
      Owns B w' ((3, .slice aF' (F.length + xs.length) cF', vals (F ++ xs)) :: its) ∧ Keeps B w w' := by
  obtain ⟨i0, hio, hz0, hz1, hz2⟩ := info_parts Try.info3i
  have hr := h.row
  rw [vals_len] at hr
  by_cases hx : xs = []
  · subst hx
    have hle : F.length ≤ cF := by
      rcases hr.2 with ⟨e0, e1⟩ | ⟨g, cap, cur, e1, _, _, h5, _⟩
      · simp only [Value.slice.injEq] at e0; omega
      · simp only [Value.slice.injEq] at e1; omega
    have hsz : Try.prog.info? 3 = some i0 := hio
    refine ⟨aF, cF, w, ?_, by simpa using h, Keeps.refl _ _⟩
    show (Builtin.append_ _ _ _).run Try.prog w = _
    cases aF with
    | none =>
      cases ax with
      | none => simp [Builtin.append_, run_underlying Try.underlying23, sizeOf, typeInfo, hio, Builtin.lenOf, Builtin.firstCells, hle]
      | some y => simp [Builtin.append_, run_underlying Try.underlying23, sizeOf, typeInfo, hio, Builtin.lenOf, Builtin.firstCells, hle, loadCells, loadCellsFrom]
    | some a =>
      cases ax with
      | none => simp [Builtin.append_, run_underlying Try.underlying23, sizeOf, typeInfo, hio, Builtin.lenOf, Builtin.firstCells, hle, storeCells]
      | some y => simp [Builtin.append_, run_underlying Try.underlying23, sizeOf, typeInfo, hio, Builtin.lenOf, Builtin.firstCells, hle, loadCells, loadCellsFrom, storeCells]
  · have hx0 : 0 < xs.length := List.length_pos_iff.2 hx
    obtain ⟨g, hg⟩ := h.formM (List.mem_cons_of_mem _ hm) (by rw [vals_len]; exact hx0)
    subst hg
    obtain ⟨g', cap, w5, hrun, ho5, hg5, hat5, hlt5⟩ := run_append_lies (P := Try.prog) w 23 23 B 3 i0 (.int .i64 0) 1 8 Try.underlying23 hio hz0 hz1 hz2 rfl (by decide) (.slice aF F.length cF) F.length (vals F) hr ⟨g, 0, none⟩ xs.length cx (vals xs) (by rw [vals_len]; omega) (fun j u hu => by rw [addr_add]; exact h.cellM (List.mem_cons_of_mem _ hm) hu) (by intro u hu; simp at hu; obtain ⟨x, _, rfl⟩ := hu; rfl) hx0 (by unfold maxLen; omega) (by omega) hB _ rfl
    refine ⟨some ⟨g', 0, none⟩, cap, w5, hrun, ?_, Keeps.first h hg5⟩
    have h2 := h.append ho5 (by simp) hg5 hat5 rfl
    rw [← List.map_append] at h2
    exact h2

theorem app_nat {B : Nat} {w : World} {its : List Item} {aF ax : Option Addr} {cF cx : Nat} {F xs : List Nat} (h : Owns B w ((3, .slice aF F.length cF, vals (natInts F)) :: its)) (hB : B ≤ w.heap.size) (hm : (3, Value.slice ax xs.length cx, vals (natInts xs)) ∈ its) (hl : F.length + xs.length ≤ 100000) :
    ∃ aF' cF' w', (AppS #[23, 23] 23 #[.slice aF F.length cF, .slice ax xs.length cx]).run Try.prog w = .ok (.slice aF' (F ++ xs).length cF') w' ∧
      Owns B w' ((3, .slice aF' (F ++ xs).length cF', vals (natInts (F ++ xs))) :: its) ∧ Keeps B w w' := by
  have e1 : (natInts F).length = F.length := by simp
  have e2 : (natInts xs).length = xs.length := by simp
  have e3 : natInts (F ++ xs) = natInts F ++ natInts xs := by simp
  have h1 := app_any (F := natInts F) (xs := natInts xs) (aF := aF) (ax := ax) (cF := cF) (cx := cx) (by rw [e1]; exact h) hB (by rw [e2]; exact hm) (by omega)
  rw [e1, e2] at h1
  rw [e3, List.length_append]
  exact h1

/-- Where a letter comes from, read. -/
theorem back_reads {B : Nat} {w : World} {its : List Item} {gB l n : Nat} {δ : Nat → Nat → Nat} {ls : List (Value × List (Value × List Nat))} (h : Owns B w its) (hb : ∀ it, it ∈ backIts (.slice (some ⟨gB, 0, none⟩) l l) (ls.map (·.1)) ls → it ∈ its)
    (hls : ls.map (fun q => q.2.map (·.2)) = (List.range l).map (fun x => (List.range n).map (backL δ n x))) {a s : Nat} (ha : a < l) (hs : s < n) :
    ∃ gm qm ax cx, w.cell? ⟨gB, a, none⟩ = some (.slice (some ⟨gm, 0, none⟩) n qm) ∧ w.cell? ⟨gm, s, none⟩ = some (.slice ax (backL δ n a s).length cx) ∧ (3, Value.slice ax (backL δ n a s).length cx, vals (natInts (backL δ n a s))) ∈ its := by
  have hll : ls.length = l := by have := congrArg List.length hls; simpa using this
  have hal : a < ls.length := by omega
  have e1 : (ls[a]).2.map (·.2) = (List.range n).map (backL δ n a) := by
    have := congrArg (fun z => z[a]?) hls
    simp only [List.getElem?_map, List.getElem?_eq_getElem hal, List.getElem?_range ha] at this
    simpa using this
  have hql : (ls[a]).2.length = n := by have := congrArg List.length e1; simpa using this
  have hsl : s < (ls[a]).2.length := by omega
  have e2 : ((ls[a]).2[s]).2 = backL δ n a s := by
    have := congrArg (fun z => z[s]?) e1
    simp only [List.getElem?_map, List.getElem?_eq_getElem hsl, List.getElem?_range hs] at this
    simpa using this
  have m0 : (23, (ls[a]).1, (ls[a]).2.map (·.1)) ∈ its := hb _ (List.mem_cons_of_mem _ (List.mem_flatMap.2 ⟨ls[a], List.getElem_mem _, List.mem_cons_self⟩))
  have m1 : (3, ((ls[a]).2[s]).1, vals (natInts ((ls[a]).2[s]).2)) ∈ its := hb _ (List.mem_cons_of_mem _ (List.mem_flatMap.2 ⟨ls[a], List.getElem_mem _, List.mem_cons_of_mem _ (List.mem_map.2 ⟨(ls[a]).2[s], List.getElem_mem _, rfl⟩)⟩))
  obtain ⟨_, am, qm, hv0⟩ := h.1 _ m0
  obtain ⟨_, ax, cx, hv1⟩ := h.1 _ m1
  simp only [List.length_map, hql] at hv0
  simp only [natInts_len, e2] at hv1
  rw [hv0] at m0
  rw [hv1, e2] at m1
  obtain ⟨gm, rfl⟩ := h.formM m0 (by simp; omega)
  refine ⟨gm, qm, ax, cx, h.cellM (hb _ List.mem_cons_self) ?_, h.cellM m0 ?_, m1⟩
  · rw [List.getElem?_map, List.getElem?_eq_getElem hal, ← hv0]; rfl
  · rw [List.getElem?_map, List.getElem?_eq_getElem hsl, ← hv1]; rfl

def ClsPost (δ : Nat → Nat → Nat) (m : Nat → Bool) (n l : Nat) (w : World) (E : Ending) (w' : World) : Prop :=
  ∃ (a1 : Option Addr) (c1 : Nat) (a2 : Option Addr) (c2 K : Nat) (cls one : Nat → Nat), E = .returned (.tuple #[.slice a1 n c1, .slice a2 K c2]) ∧ Owns w.heap.size w' [(3, .slice a1 n c1, fvals n cls), (3, .slice a2 K c2, fvals K one)] ∧
    (∀ s t, s < n → t < n → (cls s = cls t ↔ Ner δ m l s t)) ∧ (∀ s, s < n → cls s < K) ∧ (∀ j, j < K → one j < n ∧ cls (one j) = j) ∧ K ≤ n ∧ w.grownBy w' none

end Go.Proofs.Ytofjboelplknhaa
