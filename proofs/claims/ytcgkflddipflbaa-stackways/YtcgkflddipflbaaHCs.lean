/- For det.classesOf: what is read and put behind. -/
/- det.classesOf: states that no word tells apart are in one class. -/
import Derived.Test.YtcgkflddipflbaaHBk
import Derived.Test.YtcgkflddipflbaaUCl
import Derived.Deep.RegionHeld3
namespace Go.Proofs.Ytcgkflddipflbaa
open Go.RowKit
set_option linter.unusedVariables false

/-- The states that accept, of the first i. -/
def accL (m : Nat → Bool) (i : Nat) : List Nat := (List.range i).filter m
theorem accL_snoc (m : Nat → Bool) (i : Nat) : accL m (i + 1) = if m i = true then accL m i ++ [i] else accL m i := by
  simp only [accL, List.range_succ, List.filter_append, List.filter_cons, List.filter_nil]
  split <;> simp
theorem accL_len (m : Nat → Bool) (i : Nat) : (accL m i).length ≤ i := by have := List.length_filter_le m (List.range i); simpa [accL] using this
theorem accL_mem {m : Nat → Bool} {i s : Nat} : s ∈ accL m i ↔ s < i ∧ m s = true := by simp [accL]
theorem PartOf.congr {n K K' : Nat} {c c' : Nat → Nat} {S S' : Nat → Prop} (h : PartOf n K c S K' c') (he : ∀ s, s < n → (S s ↔ S' s)) : PartOf n K c S' K' c' :=
  ⟨h.le, h.keep, fun s t hs ht => by rw [h.same s t hs ht, he s hs, he t ht]⟩

theorem mem_cls {n K k : Nat} {o p c b e : Nat → Nat} (h : Parted n K o p c b e) (hk : k < K) (x : Nat) : x ∈ (List.range (e k - b k)).map (fun i => o (b k + i)) ↔ x < n ∧ c x = k := by
  have he := h.en k hk
  simp only [List.mem_map, List.mem_range]
  constructor
  · rintro ⟨i, hi, rfl⟩
    exact ⟨h.on _ (by omega), h.co k hk _ (by omega) (by omega)⟩
  · rintro ⟨hx, hc⟩
    have := (h.mem hk hx).1 hc
    exact ⟨p x - b k, by omega, by rw [show b k + (p x - b k) = p x by omega, h.op x hx]⟩
theorem nodup_cls {n K k : Nat} {o p c b e : Nat → Nat} (h : Parted n K o p c b e) (hk : k < K) : ((List.range (e k - b k)).map (fun i => o (b k + i))).Nodup := by
  have he := h.en k hk
  rw [List.nodup_iff_pairwise_ne, List.pairwise_map]
  refine List.Pairwise.imp_of_mem ?_ (List.nodup_iff_pairwise_ne.1 List.nodup_range)
  intro i j hi hj hij e1
  have hi := List.mem_range.1 hi
  have hj := List.mem_range.1 hj
  have h1 := h.po (b k + i) (by omega)
  have h2 := h.po (b k + j) (by omega)
  rw [e1, h2] at h1
  omega

theorem Owns.sublist {B : Nat} {w : World} {its its' : List Item} (h : Owns B w its) (hs : its'.Sublist its) : Owns B w its' := ⟨fun it hm => h.1 it (hs.subset hm), h.2.sublist hs⟩
/-- All that come to the first i of a list. -/
def fromL (δ : Nat → Nat → Nat) (n x : Nat) (ms : List Nat) (i : Nat) : List Nat := (ms.take i).flatMap (backL δ n x)
theorem fromL_snoc {δ : Nat → Nat → Nat} {n x i : Nat} {ms : List Nat} (h : i < ms.length) : fromL δ n x ms (i + 1) = fromL δ n x ms i ++ backL δ n x (ms.getD i 0) := by
  unfold fromL
  rw [List.take_add_one, List.flatMap_append]
  simp [List.getD, h]
/-- A row is put behind another one: whatever it holds. -/
theorem app_any {B : Nat} {w : World} {its : List Item} {aF ax : Option Addr} {cF cx : Nat} {F xs : List Int} (h : Owns B w ((3, .slice aF F.length cF, vals F) :: its)) (hB : B ≤ w.heap.size) (hm : (3, Value.slice ax xs.length cx, vals xs) ∈ its) (hl : F.length + xs.length ≤ 100000) :
    ∃ aF' cF' w', (AppS #[23, 23] 23 #[.slice aF F.length cF, .slice ax xs.length cx]).run Try.prog w = .ok (.slice aF' (F.length + xs.length) cF') w' ∧
      Owns B w' ((3, .slice aF' (F.length + xs.length) cF', vals (F ++ xs)) :: its) ∧ Keeps B w w' := by
  obtain ⟨i0, hio, hz0, hz1, hz2⟩ := info_parts Try.info3i
  have hr := h.row
  rw [vals_len] at hr
  by_cases hx : xs = []
  · subst hx
    have hle : F.length ≤ cF := by
      rcases hr.2 with ⟨e0, e1⟩ | ⟨g, cap, cur, e1, _, _, h5, _⟩
      · simp only [Value.slice.injEq] at e0; omega
      · simp only [Value.slice.injEq] at e1; omega
    have hsz : Try.prog.info? 3 = some i0 := hio
    refine ⟨aF, cF, w, ?_, by simpa using h, Keeps.refl _ _⟩
    show (Builtin.append_ _ _ _).run Try.prog w = _
    cases aF with
    | none =>
      cases ax with
      | none => simp [Builtin.append_, run_underlying Try.underlying23, sizeOf, typeInfo, hio, Builtin.lenOf, Builtin.firstCells, hle]
      | some y => simp [Builtin.append_, run_underlying Try.underlying23, sizeOf, typeInfo, hio, Builtin.lenOf, Builtin.firstCells, hle, loadCells, loadCellsFrom]
    | some a =>
      cases ax with
      | none => simp [Builtin.append_, run_underlying Try.underlying23, sizeOf, typeInfo, hio, Builtin.lenOf, Builtin.firstCells, hle, storeCells]
      | some y => simp [Builtin.append_, run_underlying Try.underlying23, sizeOf, typeInfo, hio, Builtin.lenOf, Builtin.firstCells, hle, loadCells, loadCellsFrom, storeCells]
  · have hx0 : 0 < xs.length := List.length_pos_iff.2 hx
    obtain ⟨g, hg⟩ := h.formM (List.mem_cons_of_mem _ hm) (by rw [vals_len]; exact hx0)
    subst hg
    obtain ⟨g', cap, w5, hrun, ho5, hg5, hat5, hlt5⟩ := run_append_lies (P := Try.prog) w 23 23 B 3 i0 (.int .i64 0) 1 8 Try.underlying23 hio hz0 hz1 hz2 rfl (by decide) (.slice aF F.length cF) F.length (vals F) hr ⟨g, 0, none⟩ xs.length cx (vals xs) (by rw [vals_len]; omega) (fun j u hu => by rw [addr_add]; exact h.cellM (List.mem_cons_of_mem _ hm) hu) (by intro u hu; simp at hu; obtain ⟨x, _, rfl⟩ := hu; rfl) hx0 (by unfold maxLen; omega) (by omega) hB _ rfl
    refine ⟨some ⟨g', 0, none⟩, cap, w5, hrun, ?_, Keeps.first h hg5⟩
    have h2 := h.append ho5 (by simp) hg5 hat5 rfl
    rw [← List.map_append] at h2
    exact h2

theorem app_nat {B : Nat} {w : World} {its : List Item} {aF ax : Option Addr} {cF cx : Nat} {F xs : List Nat} (h : Owns B w ((3, .slice aF F.length cF, vals (natInts F)) :: its)) (hB : B ≤ w.heap.size) (hm : (3, Value.slice ax xs.length cx, vals (natInts xs)) ∈ its) (hl : F.length + xs.length ≤ 100000) :
    ∃ aF' cF' w', (AppS #[23, 23] 23 #[.slice aF F.length cF, .slice ax xs.length cx]).run Try.prog w = .ok (.slice aF' (F ++ xs).length cF') w' ∧
      Owns B w' ((3, .slice aF' (F ++ xs).length cF', vals (natInts (F ++ xs))) :: its) ∧ Keeps B w w' := by
  have e1 : (natInts F).length = F.length := by simp
  have e2 : (natInts xs).length = xs.length := by simp
  have e3 : natInts (F ++ xs) = natInts F ++ natInts xs := by simp
  have h1 := app_any (F := natInts F) (xs := natInts xs) (aF := aF) (ax := ax) (cF := cF) (cx := cx) (by rw [e1]; exact h) hB (by rw [e2]; exact hm) (by omega)
  rw [e1, e2] at h1
  rw [e3, List.length_append]
  exact h1

/-- Where a letter comes from, read. -/
theorem back_reads {B : Nat} {w : World} {its : List Item} {gB l n : Nat} {δ : Nat → Nat → Nat} {ls : List (Value × List (Value × List Nat))} (h : Owns B w its) (hb : ∀ it, it ∈ backIts (.slice (some ⟨gB, 0, none⟩) l l) (ls.map (·.1)) ls → it ∈ its)
    (hls : ls.map (fun q => q.2.map (·.2)) = (List.range l).map (fun x => (List.range n).map (backL δ n x))) {a s : Nat} (ha : a < l) (hs : s < n) :
    ∃ gm qm ax cx, w.cell? ⟨gB, a, none⟩ = some (.slice (some ⟨gm, 0, none⟩) n qm) ∧ w.cell? ⟨gm, s, none⟩ = some (.slice ax (backL δ n a s).length cx) ∧ (3, Value.slice ax (backL δ n a s).length cx, vals (natInts (backL δ n a s))) ∈ its := by
  have hll : ls.length = l := by have := congrArg List.length hls; simpa using this
  have hal : a < ls.length := by omega
  have e1 : (ls[a]).2.map (·.2) = (List.range n).map (backL δ n a) := by
    have := congrArg (fun z => z[a]?) hls
    simp only [List.getElem?_map, List.getElem?_eq_getElem hal, List.getElem?_range ha] at this
    simpa using this
  have hql : (ls[a]).2.length = n := by have := congrArg List.length e1; simpa using this
  have hsl : s < (ls[a]).2.length := by omega
  have e2 : ((ls[a]).2[s]).2 = backL δ n a s := by
    have := congrArg (fun z => z[s]?) e1
    simp only [List.getElem?_map, List.getElem?_eq_getElem hsl, List.getElem?_range hs] at this
    simpa using this
  have m0 : (23, (ls[a]).1, (ls[a]).2.map (·.1)) ∈ its := hb _ (List.mem_cons_of_mem _ (List.mem_flatMap.2 ⟨ls[a], List.getElem_mem _, List.mem_cons_self⟩))
  have m1 : (3, ((ls[a]).2[s]).1, vals (natInts ((ls[a]).2[s]).2)) ∈ its := hb _ (List.mem_cons_of_mem _ (List.mem_flatMap.2 ⟨ls[a], List.getElem_mem _, List.mem_cons_of_mem _ (List.mem_map.2 ⟨(ls[a]).2[s], List.getElem_mem _, rfl⟩)⟩))
  obtain ⟨_, am, qm, hv0⟩ := h.1 _ m0
  obtain ⟨_, ax, cx, hv1⟩ := h.1 _ m1
  simp only [List.length_map, hql] at hv0
  simp only [natInts_len, e2] at hv1
  rw [hv0] at m0
  rw [hv1, e2] at m1
  obtain ⟨gm, rfl⟩ := h.formM m0 (by simp; omega)
  refine ⟨gm, qm, ax, cx, h.cellM (hb _ List.mem_cons_self) ?_, h.cellM m0 ?_, m1⟩
  · rw [List.getElem?_map, List.getElem?_eq_getElem hal, ← hv0]; rfl
  · rw [List.getElem?_map, List.getElem?_eq_getElem hsl, ← hv1]; rfl

def ClsPost (δ : Nat → Nat → Nat) (m : Nat → Bool) (n l : Nat) (w : World) (E : Ending) (w' : World) : Prop :=
  ∃ (a1 : Option Addr) (c1 : Nat) (a2 : Option Addr) (c2 K : Nat) (cls one : Nat → Nat), E = .returned (.tuple #[.slice a1 n c1, .slice a2 K c2]) ∧ Owns w.heap.size w' [(3, .slice a1 n c1, fvals n cls), (3, .slice a2 K c2, fvals K one)] ∧
    (∀ s t, s < n → t < n → (cls s = cls t ↔ Ner δ m l s t)) ∧ (∀ s, s < n → cls s < K) ∧ (∀ j, j < K → one j < n ∧ cls (one j) = j) ∧ K ≤ n ∧ w.grownBy w' none

end Go.Proofs.Ytcgkflddipflbaa

namespace Go.Proofs.Ytcgkflddipflbaa
open Go.RowKit
set_option linter.unusedVariables false
attribute [local go_sem ↓] app_fold

set_option maxHeartbeats 1600000 in
set_option maxRecDepth 100000 in
theorem classesOf_any (L S : Int) (R : List (List Int)) (M : List Int) (a a' : Option Addr) (c c' : Nat) (w : World) (h : DetAt w ⟨L, S, R, M⟩ a a') (hG : Good ⟨L, S, R, M⟩)
    (HBk : ∀ W, w.grownBy W none → Calls Try.prog 69 #[.agg #[.int .i64 L, .int .i64 S, .slice a R.length c, .slice a' M.length c']] W (BackPost (Dfa.nx ⟨L, S, R, M⟩) R.length L.toNat W)) :
    Calls Try.prog 53 #[.agg #[.int .i64 L, .int .i64 S, .slice a R.length c, .slice a' M.length c']] w (ClsPost (Dfa.nx ⟨L, S, R, M⟩) (Dfa.mk1 ⟨L, S, R, M⟩) R.length L.toNat w) := by
  have hn1 : 1 ≤ R.length := hG.n1
  have hn3 : R.length ≤ 3000 := hG.n3
  have hL4 : 1 ≤ L ∧ L ≤ 4 := ⟨hG.l1, hG.l4⟩
  have HML : Hid (M.length = R.length) := hG.ml
  obtain ⟨l, hl⟩ : ∃ l : Nat, L = l := ⟨L.toNat, by omega⟩
  subst hl
  simp only [Int.toNat_natCast] at HBk ⊢
  have BK : Hid _ := HBk
  have H : Hid (DetAt w ⟨l, S, R, M⟩ a a') := h
  have GD : Hid (Good ⟨l, S, R, M⟩) := hG
  have HT : Hid (∀ W, Calls Try.prog 67 #[.int .i64 (R.length : Int)] W (TogPost R.length W)) := fun W => together_any _ W hn1 hn3
  obtain ⟨W1, hW1⟩ : ∃ W1, W1 = w.alloc (.cells #[.int .i64 l, .int .i64 S, .slice a R.length c, .slice a' M.length c'] 36) := ⟨_, rfl⟩
  have Box : Hid (∀ W, W1.grownBy W none → w.grownBy W none ∧ W.cell? ⟨w.heap.size, 0, none⟩ = some (.int .i64 l) ∧ W.cell? ⟨w.heap.size, 1, none⟩ = some (.int .i64 S) ∧ W.cell? ⟨w.heap.size, 2, none⟩ = some (.slice a R.length c) ∧ W.cell? ⟨w.heap.size, 3, none⟩ = some (.slice a' M.length c')) := fun W hW => by
    exact ⟨grown_trans (hW1 ▸ grown_alloc _ _) hW, box4 (w := w) (hW1 ▸ hW)⟩
  have HS1 : Hid (W1.heap.size = w.heap.size + 1) := by show _ = _; rw [hW1]; simp
  clear h hG HBk
  go_enter Try.func53, Try.ntmps53
  go_wp2_with fail
  rw [← hW1]
  refine (HT.out _).mono ?_
  rintro E w2 ⟨bc, g0, q0, g1, q1, g2, q2, g3, q3, g4, q4, g5, q5, rfl, ho2, hg2⟩
  rw [HS1.out] at ho2
  have O2 : Hid (Owns (w.heap.size + 1) w2 (clsIts bc R.length 1 1 1 id id (fun _ => 0) (fun _ => 0) (fun _ => R.length) (fun _ => 0) g0 q0 g1 q1 g2 q2 g3 q3 g4 q4 g5 q5 [])) := ho2
  have G2 : Hid (W1.grownBy w2 none) := hg2
  obtain ⟨_, x0, x1, x2, x3⟩ := Box.out w2 hg2
  clear ho2 hg2
  obtain ⟨n, hnR⟩ : ∃ n, R.length = n := ⟨_, rfl⟩
  have HRn : Hid (R.length = n) := hnR
  rw [hnR] at hn1 hn3 O2 HML
  obtain ⟨δ, hδ⟩ : ∃ δ, Dfa.nx ⟨l, S, R, M⟩ = δ := ⟨_, rfl⟩
  obtain ⟨mk, hmk⟩ : ∃ mk, Dfa.mk1 ⟨l, S, R, M⟩ = mk := ⟨_, rfl⟩
  have HDl : Hid (Dfa.nx ⟨l, S, R, M⟩ = δ) := hδ
  have HMk : Hid (Dfa.mk1 ⟨l, S, R, M⟩ = mk) := hmk
  have HD : Hid (∀ s b, s < n → b < l → δ s b < n) := fun s b hs hb => by
    have := GD.out.nx_lt (s := s) (a := b) (by rw [HRn.out]; exact hs) (by simp; exact hb)
    rwa [HRn.out, HDl.out] at this
  rw [hδ] at BK
  clear hnR hδ hmk hW1
  go_wp2_with fail
  clear x0 x1 x2 x3
  obtain ⟨i0, hio, hz0, hz1, hz2⟩ := info_parts Try.info3i
  have hMl : M.length ≤ 3000 := by rw [HML.out]; exact hn3
  go_loopw [5, 24] (fun v5 v24 wr => ∃ (i : Nat) (aA : Option Addr) (cA : Nat), v5 = .slice aA (accL mk i).length cA ∧ v24 = .int .i64 i ∧ i ≤ M.length ∧ Owns (w.heap.size + 1) wr (clsIts bc n 1 1 1 id id (fun _ => 0) (fun _ => 0) (fun _ => n) (fun _ => 0) g0 q0 g1 q1 g2 q2 g3 q3 g4 q4 g5 q5 [(3, .slice aA (accL mk i).length cA, vals (natInts (accL mk i)))]) ∧ W1.grownBy wr none) (fun _ v24 _ => M.length - (intOf v24).toNat)
  case atStart => exact ⟨0, none, 0, rfl, rfl, by omega, to_8 (O2.out.empty 3), G2.out⟩
  case round =>
    clear O2 G2
    obtain ⟨i, aA, cA, rfl, rfl, hi, ho, hg⟩ := hrel
    have O : Hid (Owns (w.heap.size + 1) wr (clsIts bc n 1 1 1 id id (fun _ => 0) (fun _ => 0) (fun _ => n) (fun _ => 0) g0 q0 g1 q1 g2 q2 g3 q3 g4 q4 g5 q5 [(3, .slice aA (accL mk i).length cA, vals (natInts (accL mk i)))])) := ho
    have G : Hid (W1.grownBy wr none) := hg
    have hal := accL_len mk i
    clear ho hg
    by_cases hlt : i < M.length
    · have hii : (i : Int) < (M.length : Int) := by omega
      obtain ⟨bm, om, rfl, hm1⟩ := mark_reads (H.out.grown (Box.out wr G.out).1) GD.out (show i < R.length by rw [HRn.out, ← HML.out]; exact hlt)
      have HMi : Hid (mk i = decide (M.getD i 0 = 1)) := by show _ = _; rw [← HMk.out]; rfl
      generalize M.getD i 0 = x at hm1 HMi
      by_cases hx : x = 1
      · have hxi : (x == 1) = true := by simpa using hx
        have HA : Hid (accL mk (i + 1) = accL mk i ++ [i]) := by show _ = _; rw [accL_snoc, if_pos (by rw [HMi.out]; simpa using hx)]
        have hO : Hid (∀ ob, (wr.alloc ob).ownsRow (w.heap.size + 1) 3 1 (.slice aA (accL mk i).length cA) (accL mk i).length (vals (natInts (accL mk i)))) := fun ob => by
          have h2 := (at_8 (O.out.kept (grown_alloc wr ob))).row
          rwa [natInts_len] at h2
        have HSz : Hid (w.heap.size + 1 ≤ wr.heap.size) := by show _ ≤ _; rw [← HS1.out]; exact G.out.size
        have HE : Hid ((accL mk i ++ [i]).length = (accL mk i).length + 1) := by show _ = _; simp
        clear hx
        go_wp2_with (at_builtin; refine wpList_append_lies _ rfl _ _ 23 rfl (w.heap.size + 1) 3 i0 (.int .i64 0) 1 8 Try.underlying23 hio hz0 hz1 hz2 rfl (by decide) (.slice aA (accL mk i).length cA) (accL mk i).length _ rfl (hO.out _) ⟨wr.heap.size, 0, none⟩ 1 1 [.int .i64 (i : Int)] rfl rfl (cell_one_new _ _ _) (by intro u hu; simp at hu; subst hu; rfl) (by omega) (by unfold maxLen; omega) (by omega) (by have := HSz.out; simp only [World.size_alloc]; omega) (wr.heap.size + 1) (by rw [World.size_alloc]) ?_; intro ga ca wa hoa hga hata _; have oa := to_8 ((at_8 (O.out.kept (grown_alloc wr _))).append hoa (by simp) hga hata (by rw [World.size_alloc])); rw [natInts_snoc] at oa; have OA : Hid _ := oa; have GA : Hid (W1.grownBy wa none) := (Owns.frame (w0 := W1) (at_8 (O.out.kept (grown_alloc wr _))) (by rw [HS1.out]; exact Nat.le_refl _) (grown_trans G.out (grown_alloc _ _)) hga); clear hoa hga hata oa)
        go_roundw
        case rel => exact ⟨i + 1, some ⟨ga, 0, none⟩, ca, by rw [HA.out, HE.out], by go_num, by omega, by rw [HA.out, HE.out]; exact OA.out, GA.out⟩
        case measure => simp [intOf]; omega
      · have hxi : (x == 1) = false := by simpa using hx
        have HA : Hid (accL mk (i + 1) = accL mk i) := by show _ = _; rw [accL_snoc, if_neg (by rw [HMi.out]; simpa using hx)]
        clear hx
        go_wp2_with fail
        go_roundw
        case rel => exact ⟨i + 1, aA, cA, by rw [HA.out], by go_num, by omega, by rw [HA.out]; exact O.out, G.out⟩
        case measure => simp [intOf]; omega
    · have hii : ¬ (i : Int) < (M.length : Int) := by omega
      have hin : n = i := by rw [← HML.out]; omega
      subst hin
      have HPt : Hid (∀ W, wr.grownBy W none → Calls Try.prog 68 #[.pointer (some ⟨bc, 0, none⟩), .slice aA (accL mk n).length cA] W (PartPost (w.heap.size + 1) bc n 1 id id (fun _ => 0) (fun _ => 0) (fun _ => n) (fun _ => 0) (accL mk n) g0 q0 g1 q1 g2 q2 [(3, .slice aA (accL mk n).length cA, vals (natInts (accL mk n)))] W)) := fun W hW =>
        part_any _ _ _ _ _ _ _ _ _ _ _ _ _ _ _ _ _ _ _ _ _ _ _ _ _ _ _ (O.out.kept hW) (Parted.start n (by omega)) (fun _ _ => rfl) hn3 (by simp) (fun s hs => (accL_mem.1 hs).1) (List.Pairwise.filter _ List.nodup_range)
      have GG : Hid (W1.grownBy wr none) := G.out
      clear O G
      go_wp2_with fail
      refine (HPt.out _ (grown_refl _ _)).mono ?_
      rintro E w4 ⟨K, o, p, c1, b, e, k, g3, q3, g4, q4, g5, q5, rfl, ho4, hP4, hk4, hpo, hkp4⟩
      have O4 : Hid (Owns (w.heap.size + 1) w4 (clsIts bc n K K K o p c1 b e k g0 q0 g1 q1 g2 q2 g3 q3 g4 q4 g5 q5 [])) := (at_8 ho4).tail
      have P4 : Hid (Parted n K o p c1 b e ∧ ∀ j, j < K → k j = 0) := ⟨hP4, hk4⟩
      have HP4 : Hid (Hop δ mk n l K c1 0) := Hop.start (hpo.congr (fun s hs => by simp [accL_mem, hs]))
      have G4 : Hid (W1.grownBy w4 none) := hkp4 W1 (by rw [HS1.out]; exact Nat.le_refl _) GG.out
      clear ho4 hP4 hk4 hpo hkp4 HPt GG
      have BK4 : Hid (Calls Try.prog 69 #[.agg #[.int .i64 l, .int .i64 S, .slice a R.length c, .slice a' M.length c']] w4 (BackPost δ R.length l w4)) := BK.out w4 (Box.out w4 G4.out).1
      obtain ⟨_, x0, x1, x2, x3⟩ := Box.out w4 G4.out
      go_wp2_with fail
      refine BK4.out.mono ?_
      rintro E w5 ⟨gB, ls, rfl, hls, ho5, hg5⟩
      rw [HRn.out] at hls
      have HLs : Hid (ls.map (fun q => q.2.map (·.2)) = (List.range l).map (fun x => (List.range n).map (backL δ n x))) := hls
      have G5 : Hid (W1.grownBy w5 none) := grown_trans G4.out hg5
      have O5 : Hid (Owns (w.heap.size + 1) w5 (clsIts bc n K K K o p c1 b e k g0 q0 g1 q1 g2 q2 g3 q3 g4 q4 g5 q5 (backIts (.slice (some ⟨gB, 0, none⟩) l l) (ls.map (·.1)) ls))) := by
        have h1 := O4.out.join hg5 ho5 (by have := G4.out.size; rw [HS1.out] at this; exact this)
        exact h1.perm List.perm_append_comm
      clear hls ho5 hg5 O4 G4 BK4 x0 x1 x2 x3
      go_wp2_with fail
      go_loopw [9] (fun v9 wr => ∃ (k K : Nat) (o p c b e kk : Nat → Nat) (g3 q3 g4 q4 g5 q5 : Nat), v9 = .int .i64 k ∧ k ≤ K ∧ Hop δ mk n l K c k ∧ Parted n K o p c b e ∧ (∀ j, j < K → kk j = 0) ∧ Owns (w.heap.size + 1) wr (clsIts bc n K K K o p c b e kk g0 q0 g1 q1 g2 q2 g3 q3 g4 q4 g5 q5 ((backIts (.slice (some ⟨gB, 0, none⟩) l l) (ls.map (·.1)) ls))) ∧ W1.grownBy wr none) (fun v9 _ => n - (intOf v9).toNat)
      case atStart => exact ⟨0, K, o, p, c1, b, e, k, g3, q3, g4, q4, g5, q5, rfl, by omega, HP4.out, P4.out.1, P4.out.2, O5.out, G5.out⟩
      case round =>
        clear O5 G5 HP4 P4
        obtain ⟨k, K, o, p, c, b, e, kk, g3, q3, g4, q4, g5, q5, rfl, hkK, hHop, hPar, hkk, ho, hg⟩ := hrel
        have O : Hid (Owns (w.heap.size + 1) wr (clsIts bc n K K K o p c b e kk g0 q0 g1 q1 g2 q2 g3 q3 g4 q4 g5 q5 ((backIts (.slice (some ⟨gB, 0, none⟩) l l) (ls.map (·.1)) ls)))) := ho
        have G : Hid (W1.grownBy wr none) := hg
        have HH : Hid (Hop δ mk n l K c k) := hHop
        have HP : Hid (Parted n K o p c b e) := hPar
        have HK : Hid (∀ j, j < K → kk j = 0) := hkk
        have hKn : K ≤ n := hPar.le
        clear ho hg hHop hPar hkk
        have x3 := (cls_box O.out).2.2.2.1
        by_cases hlt2 : k < K
        · have hki : (k : Int) < (K : Int) := by omega
          have x0 := (cls_box O.out).1
          have x4 := (cls_box O.out).2.2.2.2.1
          have xb := (at_5 O.out).cell (fvals_get (f := b) hlt2)
          have xe := (at_6 O.out).cell (fvals_get (f := e) hlt2)
          have hbe := HP.out.be k hlt2
          have hen := HP.out.en k hlt2
          have hq0 := (at_2 O.out).cap
          have hq0' : n ≤ q0 ∧ q0 ≤ 9223372036854775807 := by unfold maxLen at hq0; omega
          obtain ⟨ms, hms⟩ : ∃ ms, (List.range (e k - b k)).map (fun i => o (b k + i)) = ms := ⟨_, rfl⟩
          have HMs : Hid ((∀ x, x ∈ ms ↔ x < n ∧ c x = k) ∧ ms.Nodup) := by rw [← hms]; exact ⟨fun x => mem_cls HP.out hlt2 x, nodup_cls HP.out hlt2⟩
          have hml : ms.length = e k - b k := by rw [← hms]; simp
          have HCl : Hid (∀ W, wr.grownBy W none → Calls Try.prog 70 #[.slice (some ⟨g0, b k, none⟩) (e k - b k) (q0 - b k)] W (ClonePost (natInts ms) W)) := fun W hW => by
            have e1 : (natInts ms).length = e k - b k := by simp [hml]
            rw [← e1]
            refine clone_any g0 (b k) _ _ W (fun i hi => ?_) (by rw [e1]; omega) (by rw [e1]; omega)
            rw [e1] at hi
            have hx := (at_2 (O.out.kept hW)).cell (fvals_get (f := o) (show b k + i < n by omega))
            rw [hx]
            have : (natInts ms).getD i 0 = ((o (b k + i) : Nat) : Int) := by rw [← hms]; simp [List.getD, hi]
            rw [this]
          have HML : Hid (ms.length = e k - b k) := hml
          have hbi2 : ((b k : Nat) : Int) ≤ ((e k : Nat) : Int) := by omega
          have hei : ((e k : Nat) : Int) ≤ (q0 : Int) := by omega
          have hqne : ¬ q0 = b k := by omega
          clear hms hml
          go_wp2_with fail
          go_region_held3 (fun W => W.cell? ⟨bc, 0, none⟩ = some (.slice (some ⟨g0, 0, none⟩) n q0) ∧ W.cell? ⟨bc, 3, none⟩ = some (.slice (some ⟨g3, 0, none⟩) K q3) ∧ W.cell? ⟨bc, 4, none⟩ = some (.slice (some ⟨g4, 0, none⟩) K q4) ∧ W.cell? ⟨g3, k, none⟩ = some (.int .i64 ((b k : Nat) : Int)) ∧ W.cell? ⟨g4, k, none⟩ = some (.int .i64 ((e k : Nat) : Int))) (first | go_keep | exact ⟨hg6.cell x0 (by simp), hg6.cell x3 (by simp), hg6.cell x4 (by simp), hg6.cell xb (by simp), hg6.cell xe (by simp)⟩)
            ((go_at_call 70; refine (HCl.out wr.drew (grown_drew (grown_refl _ _))).mono ?_; rintro E w6 ⟨gM, cM, rfl, ho6, hg6d⟩; have hg6 : wr.grownBy w6 none := grown_trans (grown_drew (grown_refl _ _)) hg6d))
          all_goals
            rw [show (natInts ms).length = ms.length by simp] at ho6
            have O6 : Hid (Owns (w.heap.size + 1) w6 (clsIts bc n K K K o p c b e kk g0 q0 g1 q1 g2 q2 g3 q3 g4 q4 g5 q5 ((3, .slice (some ⟨gM, 0, none⟩) ms.length cM, vals (natInts ms)) :: (backIts (.slice (some ⟨gB, 0, none⟩) l l) (ls.map (·.1)) ls)))) := to_8 (O.out.join hg6 ho6 (by have := G.out.size; rw [HS1.out] at this; exact this))
            have G6 : Hid (W1.grownBy w6 none) := grown_trans G.out hg6
            have y0 := (Box.out w6 G6.out).2.1
            have hml3 : ms.length ≤ n := nodup_le n ms HMs.out.2 (fun x hx => ((HMs.out.1 x).1 hx).1)
            clear ho6 hg6 hg6d O G x0 x3 x4 xb xe
            go_wp2_with fail
            clear y0
            go_loopw [72] (fun v72 wr => ∃ (x K' : Nat) (o p c' b e kk : Nat → Nat) (g3 q3 g4 q4 g5 q5 : Nat), v72 = .int .i64 x ∧ x ≤ l ∧ HopIn δ mk n l k K c K' c' x ∧ Parted n K' o p c' b e ∧ (∀ j, j < K' → kk j = 0) ∧ Owns (w.heap.size + 1) wr (clsIts bc n K' K' K' o p c' b e kk g0 q0 g1 q1 g2 q2 g3 q3 g4 q4 g5 q5 ((3, .slice (some ⟨gM, 0, none⟩) ms.length cM, vals (natInts ms)) :: (backIts (.slice (some ⟨gB, 0, none⟩) l l) (ls.map (·.1)) ls))) ∧ W1.grownBy wr none) (fun v72 _ => l - (intOf v72).toNat)
            case atStart => exact ⟨0, K, o, p, c, b, e, kk, g3, q3, g4, q4, g5, q5, rfl, by omega, HopIn.start HH.out, HP.out, HK.out, O6.out, G6.out⟩
            case round =>
              clear O6 G6 HP HK HCl HML
              obtain ⟨x, K', o, p, c2, b, e, kk, g3, q3, g4, q4, g5, q5, rfl, hxl, hIn, hPar, hkk, ho, hg⟩ := hrel
              have O : Hid (Owns (w.heap.size + 1) wr (clsIts bc n K' K' K' o p c2 b e kk g0 q0 g1 q1 g2 q2 g3 q3 g4 q4 g5 q5 ((3, .slice (some ⟨gM, 0, none⟩) ms.length cM, vals (natInts ms)) :: (backIts (.slice (some ⟨gB, 0, none⟩) l l) (ls.map (·.1)) ls)))) := ho
              have G : Hid (W1.grownBy wr none) := hg
              have HI : Hid (HopIn δ mk n l k K c K' c2 x) := hIn
              have HP : Hid (Parted n K' o p c2 b e) := hPar
              have HK : Hid (∀ j, j < K' → kk j = 0) := hkk
              clear ho hg hIn hPar hkk
              by_cases hxlt : x < l
              · have hxi : (x : Int) < (l : Int) := by omega
                go_wp2_with fail
                go_loopw [12, 77] (fun v12 v77 wr => ∃ (i : Nat) (aF : Option Addr) (cF : Nat), v12 = .slice aF (fromL δ n x ms i).length cF ∧ v77 = .int .i64 i ∧ i ≤ ms.length ∧ Owns (w.heap.size + 1) wr (clsIts bc n K' K' K' o p c2 b e kk g0 q0 g1 q1 g2 q2 g3 q3 g4 q4 g5 q5 ((3, .slice aF (fromL δ n x ms i).length cF, vals (natInts (fromL δ n x ms i))) :: (3, .slice (some ⟨gM, 0, none⟩) ms.length cM, vals (natInts ms)) :: (backIts (.slice (some ⟨gB, 0, none⟩) l l) (ls.map (·.1)) ls))) ∧ W1.grownBy wr none) (fun _ v77 _ => ms.length - (intOf v77).toNat)
                case atStart => exact ⟨0, none, 0, rfl, rfl, by omega, to_8 (O.out.empty 3), G.out⟩
                case round =>
                  clear O G
                  obtain ⟨i, aF, cF, rfl, rfl, hi2, ho, hg⟩ := hrel
                  have O : Hid (Owns (w.heap.size + 1) wr (clsIts bc n K' K' K' o p c2 b e kk g0 q0 g1 q1 g2 q2 g3 q3 g4 q4 g5 q5 ((3, .slice aF (fromL δ n x ms i).length cF, vals (natInts (fromL δ n x ms i))) :: (3, .slice (some ⟨gM, 0, none⟩) ms.length cM, vals (natInts ms)) :: (backIts (.slice (some ⟨gB, 0, none⟩) l l) (ls.map (·.1)) ls)))) := ho
                  have G : Hid (W1.grownBy wr none) := hg
                  clear ho hg
                  have hfl := from_len (δ := δ) (n := n) (a := x) (ms := ms.take i) (List.Nodup.sublist (List.take_sublist _ _) HMs.out.2)
                  by_cases hil : i < ms.length
                  · have hii : (i : Int) < (ms.length : Int) := by omega
                    obtain ⟨s, hs⟩ : ∃ s, ms.getD i 0 = s := ⟨_, rfl⟩
                    have hsn : s < n := ((HMs.out.1 s).1 (hs ▸ getD_mem hil)).1
                    have xm := O.out.cellM (List.mem_append_right [_, _, _, _, _, _, _, _] List.mem_cons_self) (natInts_get hil)
                    rw [hs] at xm
                    obtain ⟨gm, qm, ax, cx, r1, r2, r3⟩ := back_reads (its := clsIts bc n K' K' K' o p c2 b e kk g0 q0 g1 q1 g2 q2 g3 q3 g4 q4 g5 q5 ((3, .slice (some ⟨gM, 0, none⟩) ms.length cM, vals (natInts ms)) :: (backIts (.slice (some ⟨gB, 0, none⟩) l l) (ls.map (·.1)) ls))) (at_8 O.out).tail (fun it hm => List.mem_append_right [_, _, _, _, _, _, _, _] hm) HLs.out hxlt hsn
                    have HF : Hid (fromL δ n x ms (i + 1) = fromL δ n x ms i ++ backL δ n x s) := by show _ = _; rw [← hs]; exact fromL_snoc hil
                    have hbl : (backL δ n x s).length ≤ n := nodup_le n _ (backL_nodup _ _ _ _) (fun t ht => (backL_mem.1 ht).1)
                    have hfl2 : (fromL δ n x ms i).length ≤ n := hfl
                    have hBs : w.heap.size + 1 ≤ wr.heap.size := by have := G.out.size; rw [HS1.out] at this; exact this
                    obtain ⟨aF', cF', w7, hrun, ho7, hk7⟩ := app_nat (at_8 O.out) hBs (show (3, Value.slice ax (backL δ n x s).length cx, vals (natInts (backL δ n x s))) ∈ clsIts bc n K' K' K' o p c2 b e kk g0 q0 g1 q1 g2 q2 g3 q3 g4 q4 g5 q5 ((3, .slice (some ⟨gM, 0, none⟩) ms.length cM, vals (natInts ms)) :: (backIts (.slice (some ⟨gB, 0, none⟩) l l) (ls.map (·.1)) ls)) from r3) (by omega)
                    rw [← HF.out] at hrun ho7
                    have O7 : Hid (Owns (w.heap.size + 1) w7 (clsIts bc n K' K' K' o p c2 b e kk g0 q0 g1 q1 g2 q2 g3 q3 g4 q4 g5 q5 ((3, .slice aF' (fromL δ n x ms (i + 1)).length cF', vals (natInts (fromL δ n x ms (i + 1)))) :: (3, .slice (some ⟨gM, 0, none⟩) ms.length cM, vals (natInts ms)) :: (backIts (.slice (some ⟨gB, 0, none⟩) l l) (ls.map (·.1)) ls)))) := to_8 ho7
                    have G7 : Hid (W1.grownBy w7 none) := hk7 W1 (by rw [HS1.out]; exact Nat.le_refl _) G.out
                    have hsi : (s : Int) < (n : Int) := by omega
                    have hs0 : (0 : Int) ≤ (s : Int) := by omega
                    clear ho7 hk7 r3 hs HF
                    generalize (backL δ n x s).length = bl at r2 hrun
                    go_wp2_with fail
                    go_roundw
                    case rel => exact ⟨i + 1, aF', cF', rfl, by go_num, by omega, O7.out, G7.out⟩
                    case measure => simp [intOf]; omega
                  · have hii : ¬ (i : Int) < (ms.length : Int) := by omega
                    have hie : ms.length = i := by omega
                    subst hie
                    have HPt : Hid (∀ W, wr.grownBy W none → Calls Try.prog 68 #[.pointer (some ⟨bc, 0, none⟩), .slice aF (fromL δ n x ms ms.length).length cF] W (PartPost (w.heap.size + 1) bc n K' o p c2 b e kk (fromL δ n x ms ms.length) g0 q0 g1 q1 g2 q2 ((3, .slice aF (fromL δ n x ms ms.length).length cF, vals (natInts (fromL δ n x ms ms.length))) :: (3, .slice (some ⟨gM, 0, none⟩) ms.length cM, vals (natInts ms)) :: (backIts (.slice (some ⟨gB, 0, none⟩) l l) (ls.map (·.1)) ls)) W)) := fun W hW =>
                      part_any _ _ _ _ _ _ _ _ _ _ _ _ _ _ _ _ _ _ _ _ _ _ _ _ _ _ _ (O.out.kept hW) HP.out HK.out hn3 List.mem_cons_self (fun s hs => by unfold fromL at hs; rw [List.take_length] at hs; exact (from_mem.1 hs).1) (by unfold fromL; rw [List.take_length]; exact from_nodup HMs.out.2)
                    have GG : Hid (W1.grownBy wr none) := G.out
                    clear O G
                    go_wp2_with fail
                    refine (HPt.out _ (grown_refl _ _)).mono ?_
                    rintro E w8 ⟨K3, o3, p3, c3, b3, e3, k3, g3', q3', g4', q4', g5', q5', rfl, ho8, hP8, hk8, hpo, hkp8⟩
                    have O8 : Hid _ := (at_8 ho8).tail
                    have P8 : Hid (Parted n K3 o3 p3 c3 b3 e3 ∧ ∀ j, j < K3 → k3 j = 0) := ⟨hP8, hk8⟩
                    have I8 : Hid (HopIn δ mk n l k K c K3 c3 (x + 1)) := HI.out.step HH.out HD.out hxlt (hpo.congr (fun s hs => by
                      unfold fromL
                      rw [List.take_length, from_mem]
                      constructor
                      · rintro ⟨_, h2⟩; exact ((HMs.out.1 _).1 h2).2
                      · intro h2; exact ⟨hs, (HMs.out.1 _).2 ⟨HD.out _ _ hs hxlt, h2⟩⟩))
                    have G8 : Hid (W1.grownBy w8 none) := hkp8 W1 (by rw [HS1.out]; exact Nat.le_refl _) GG.out
                    clear ho8 hP8 hk8 hpo hkp8 HPt GG
                    go_wp2_with fail
                    go_roundw
                    case rel => exact ⟨x + 1, K3, o3, p3, c3, b3, e3, k3, g3', q3', g4', q4', g5', q5', by go_num, by omega, I8.out, P8.out.1, P8.out.2, O8.out, G8.out⟩
                    case measure => simp [intOf]; omega
              · have hxi : ¬ (x : Int) < (l : Int) := by omega
                have hxe : l = x := by omega
                subst hxe
                have HH1 : Hid (Hop δ mk n l K' c2 (k + 1)) := HI.out.done HH.out HD.out hlt2
                have hle := HI.out.le
                have O9 : Hid _ := (at_8 O.out).tail
                clear O
                go_wp2_with fail
                go_roundw
                case rel => exact ⟨k + 1, K', o, p, c2, b, e, kk, g3, q3, g4, q4, g5, q5, by go_num, by omega, HH1.out, HP.out, HK.out, O9.out, G.out⟩
                case measure => simp [intOf]; omega
        · have hki : ¬ (k : Int) < (K : Int) := by omega
          have hke : K = k := by omega
          subst hke
          have O0 : Hid (Owns (w.heap.size + 1) wr (clsIts bc n K K K o p c b e kk g0 q0 g1 q1 g2 q2 g3 q3 g4 q4 g5 q5 ((3, .slice none 0 0, fvals 0 (fun t => o (b t))) :: (backIts (.slice (some ⟨gB, 0, none⟩) l l) (ls.map (·.1)) ls)))) := to_8 (O.out.empty 3)
          go_wp2_with fail
          go_loopw [3, 100] (fun v3 v100 wr => ∃ (j : Nat) (a2 : Option Addr) (c2 : Nat), v3 = .slice a2 j c2 ∧ v100 = .int .i64 j ∧ j ≤ K ∧ Owns (w.heap.size + 1) wr (clsIts bc n K K K o p c b e kk g0 q0 g1 q1 g2 q2 g3 q3 g4 q4 g5 q5 ((3, .slice a2 j c2, fvals j (fun t => o (b t))) :: (backIts (.slice (some ⟨gB, 0, none⟩) l l) (ls.map (·.1)) ls))) ∧ W1.grownBy wr none) (fun _ v100 _ => K - (intOf v100).toNat)
          case atStart => exact ⟨0, none, 0, rfl, rfl, by omega, O0.out, G.out⟩
          case round =>
            clear O G O0 x3
            obtain ⟨j, a2, c2, rfl, rfl, hj, ho, hg⟩ := hrel
            have O : Hid (Owns (w.heap.size + 1) wr (clsIts bc n K K K o p c b e kk g0 q0 g1 q1 g2 q2 g3 q3 g4 q4 g5 q5 ((3, .slice a2 j c2, fvals j (fun t => o (b t))) :: (backIts (.slice (some ⟨gB, 0, none⟩) l l) (ls.map (·.1)) ls)))) := ho
            have G : Hid (W1.grownBy wr none) := hg
            clear ho hg
            by_cases hjK : j < K
            · have hji : (j : Int) < (K : Int) := by omega
              have x0 := (cls_box O.out).1
              have xb := (at_5 O.out).cell (fvals_get (f := b) hjK)
              have hbn := HP.out.bn hjK
              have xo := (at_2 O.out).cell (fvals_get (f := o) hbn)
              have hon := HP.out.on _ hbn
              have hO : Hid (∀ ob, (wr.alloc ob).ownsRow (w.heap.size + 1) 3 1 (.slice a2 j c2) j (fvals j (fun t => o (b t)))) := fun ob => by
                have h2 := (at_8 (O.out.kept (grown_alloc wr ob))).row
                rwa [fvals_len] at h2
              have HSz : Hid (w.heap.size + 1 ≤ wr.heap.size) := by show _ ≤ _; rw [← HS1.out]; exact G.out.size
              have HFs : Hid (∀ y, fvals j (fun t => o (b t)) ++ [.int .i64 ((o (b j) : Nat) : Int)] = y → fvals (j + 1) (fun t => o (b t)) = y) := fun y hy => by
                rw [← hy, fvals_snoc]
                exact fvals_congr fun i hi => by
                  by_cases e1 : i = j
                  · subst e1; rw [upd_same]
                  · rw [upd_ne e1]
              have hbi3 : ((b j : Nat) : Int) < (n : Int) := by omega
              generalize hbj : b j = bj at *
              generalize hobj : o bj = obj at *
              go_wp2_with (at_builtin; refine wpList_append_lies _ rfl _ _ 23 rfl (w.heap.size + 1) 3 i0 (.int .i64 0) 1 8 Try.underlying23 hio hz0 hz1 hz2 rfl (by decide) (.slice a2 j c2) j _ rfl (hO.out _) ⟨wr.heap.size, 0, none⟩ 1 1 [.int .i64 (obj : Int)] rfl rfl (cell_one_new _ _ _) (by intro u hu; simp at hu; subst hu; rfl) (by omega) (by unfold maxLen; omega) (by omega) (by have := HSz.out; simp only [World.size_alloc]; omega) (wr.heap.size + 1) (by rw [World.size_alloc]) ?_; intro ga ca wa hoa hga hata _; have oa := to_8 ((at_8 (O.out.kept (grown_alloc wr _))).append hoa (by simp) hga hata (by rw [World.size_alloc])); rw [← HFs.out _ rfl] at oa; have OA : Hid _ := oa; have GA : Hid (W1.grownBy wa none) := (Owns.frame (w0 := W1) (at_8 (O.out.kept (grown_alloc wr _))) (by rw [HS1.out]; exact Nat.le_refl _) (grown_trans G.out (grown_alloc _ _)) hga); clear hoa hga hata oa)
              go_roundw
              case rel => exact ⟨j + 1, some ⟨ga, 0, none⟩, ca, rfl, by go_num, by omega, OA.out, GA.out⟩
              case measure => simp [intOf]; omega
            · have hji : ¬ (j : Int) < (K : Int) := by omega
              have hje : K = j := by omega
              subst hje
              have x2 := (cls_box O.out).2.2.1
              have O9 : Hid (Owns w.heap.size wr [(3, .slice (some ⟨g2, 0, none⟩) n q2, fvals n c), (3, .slice a2 K c2, fvals K (fun t => o (b t)))]) := (O.out.sublist (.cons _ (.cons _ (.cons _ (.cons_cons _ (.cons _ (.cons _ (.cons _ (.cons_cons _ (List.nil_sublist _)))))))))).base (by omega)
              have Gw : Hid (w.grownBy wr none) := (Box.out wr G.out).1
              have HE : Hid (∀ s t, s < n → t < n → (c s = c t ↔ Ner δ mk l s t)) := fun s t hs ht => HH.out.end HD.out HP.out.ck hs ht
              clear O G
              go_wp2_with fail
              go_ret2
              refine ⟨some ⟨g2, 0, none⟩, q2, a2, c2, K, c, fun t => o (b t), by rw [HRn.out]; rfl, by rw [HRn.out]; exact O9.out, ?_, ?_, ?_, by rw [HRn.out]; exact hKn, Gw.out⟩
              · rw [HDl.out, HMk.out, HRn.out]; exact HE.out
              · rw [HRn.out]; exact HP.out.ck
              · rw [HRn.out]; exact fun t ht => ⟨HP.out.on _ (HP.out.bn ht), HP.out.co t ht (b t) (Nat.le_refl _) (HP.out.be t ht)⟩

end Go.Proofs.Ytcgkflddipflbaa
