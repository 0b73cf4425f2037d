/- The reference's reader: its block, the parts that it has made, and its small functions. -/
/- A part is put behind the others, as the reference does it. -/
import Derived.Test.YticmfgclkepgoaaRdr
import Derived.Deep.RegionLaw
namespace Go.Proofs.Yticmfgclkepgoaa
open Go.RowKit
set_option linter.unusedVariables false

/-- The reference's reader lies in block b. -/
def RRd (w : World) (b : Nat) (s : ByteArray) (i d : Nat) (L : Value) (c : Int) (a : Nat) : Prop :=
  w.heap[b]? = some (.cells #[.string s, .int .i64 i, .int .i64 d, L, .int .i64 c, .int .i64 a] 48 (0, 0))

section
variable {w : World} {b : Nat} {s : ByteArray} {i d : Nat} {L : Value} {c : Int} {a : Nat}
theorem RRd.lt (h : RRd w b s i d L c a) : b < w.heap.size := (Array.getElem?_eq_some_iff.1 h).1
theorem RRd.c0 (h : RRd w b s i d L c a) : w.cell? ⟨b, 0, none⟩ = some (.string s) := by rw [cell_of_row w b 0 _ _ (0, 0) h]; rfl
theorem RRd.c1 (h : RRd w b s i d L c a) : w.cell? ⟨b, 1, none⟩ = some (.int .i64 i) := by rw [cell_of_row w b 1 _ _ (0, 0) h]; rfl
theorem RRd.c2 (h : RRd w b s i d L c a) : w.cell? ⟨b, 2, none⟩ = some (.int .i64 d) := by rw [cell_of_row w b 2 _ _ (0, 0) h]; rfl
theorem RRd.c3 (h : RRd w b s i d L c a) : w.cell? ⟨b, 3, none⟩ = some L := by rw [cell_of_row w b 3 _ _ (0, 0) h]; rfl
theorem RRd.c4 (h : RRd w b s i d L c a) : w.cell? ⟨b, 4, none⟩ = some (.int .i64 c) := by rw [cell_of_row w b 4 _ _ (0, 0) h]; rfl
theorem RRd.c5 (h : RRd w b s i d L c a) : w.cell? ⟨b, 5, none⟩ = some (.int .i64 a) := by rw [cell_of_row w b 5 _ _ (0, 0) h]; rfl
theorem RRd.f (h : RRd w b s i d L c a) (k : Nat) : w.frozen? ⟨b, k, none⟩ = false := frozen_of_row w b k _ _ h
theorem RRd.set1 (h : RRd w b s i d L c a) (j : Nat) {x : Int} (hx : x = j) : RRd (w.setCell ⟨b, 1, none⟩ (.int .i64 x)) b s j d L c a := by
  subst hx; unfold RRd at h ⊢; rw [heap_setCell_same w b 1 _ _ _ h]; rfl
theorem RRd.set2 (h : RRd w b s i d L c a) (j : Nat) {x : Int} (hx : x = j) : RRd (w.setCell ⟨b, 2, none⟩ (.int .i64 x)) b s i j L c a := by
  subst hx; unfold RRd at h ⊢; rw [heap_setCell_same w b 2 _ _ _ h]; rfl
theorem RRd.set3 (h : RRd w b s i d L c a) (L' : Value) : RRd (w.setCell ⟨b, 3, none⟩ L') b s i d L' c a := by
  unfold RRd at h ⊢; rw [heap_setCell_same w b 3 _ _ _ h]; rfl
theorem RRd.set45 (h : RRd w b s i d L c a) (c' : Int) (a' : Nat) : RRd ((w.setCell ⟨b, 4, none⟩ (.int .i64 c')).setCell ⟨b, 5, none⟩ (.int .i64 a')) b s i d L c' a' := by
  unfold RRd at h ⊢; rw [heap_setCell_same _ b 5 _ _ _ (heap_setCell_same w b 4 _ _ _ h)]; rfl
theorem RRd.place (h : RRd w b s i d L c a) : placeOf w b = i := by simp [placeOf, h.c1, intOf]
theorem RRd.kept {w' : World} {row : Option Nat} (h : RRd w b s i d L c a) (hg : w.grownBy w' row) (hne : row ≠ some b) : RRd w' b s i d L c a := (hg.block b h.lt (Ne.symm hne)).trans h
end

/-- A part as the reference keeps it: its kind, its letter, and the numbers of what it is made of, which lie at kv. -/
structure PartR where
  kind : Int
  let_ : Int
  kv : Value
  kids : List Int

def flat (ps : List PartR) : List Value := ps.flatMap fun p => [.int .i64 p.kind, .int .i64 p.let_, p.kv]

theorem flat_append (ps qs : List PartR) : flat (ps ++ qs) = flat ps ++ flat qs := by simp [flat]
theorem flat_length (ps : List PartR) : (flat ps).length = ps.length * 3 := by
  induction ps with
  | nil => rfl
  | cons p ps ih => simp [flat] at ih ⊢; omega

/-- Where the numbers of a part lie. -/
def KidsAt (ok : Nat → Prop) (w : World) (p : PartR) : Prop :=
  (∃ a n c, p.kv = .slice a n c) ∧ (p.kids = [] ∨ ∃ g cap, ok g ∧ p.kv = .slice (some ⟨g, 0, none⟩) p.kids.length cap ∧ ∀ k, k < p.kids.length → w.cell? ⟨g, k, none⟩ = some (.int .i64 (p.kids.getD k 0)))

theorem KidsAt.kept {ok ok' : Nat → Prop} {w w' : World} {p : PartR} (h : KidsAt ok w p) (hk : ∀ g, ok g → g < w.heap.size → ok' g ∧ w'.heap[g]? = w.heap[g]?) : KidsAt ok' w' p := by
  obtain ⟨h0, h⟩ := h
  refine ⟨h0, ?_⟩
  rcases h with h | ⟨g, cap, hg, hv, hc⟩
  · exact .inl h
  · by_cases hl : p.kids = []
    · exact .inl hl
    · have hpos : 0 < p.kids.length := by cases hq : p.kids with | nil => exact absurd hq hl | cons => simp
      have hlt := World.block_lt_of_cell? w _ (hc 0 hpos)
      obtain ⟨k1, k2⟩ := hk g hg hlt
      exact .inr ⟨g, cap, k1, hv, fun k hk => (World.cell?_of_block (a := ⟨g, k, none⟩) k2).trans (hc k hk)⟩

/-- The parts that the reader in block b has made. -/
structure Parts (w : World) (b : Nat) (L : Value) (ps : List PartR) : Prop where
  own : w.ownsRow (b + 1) 67 3 L ps.length (flat ps)
  at_ : ∀ p ∈ ps, KidsAt (fun g => b < g ∧ L.ownBlock ≠ some g) w p

/-- Of what was there, only the reader and its list have turned. -/
structure Fr (w w' : World) (b : Nat) (L L' : Value) : Prop where
  os : w'.os = w.os
  tape : w'.tape = w.tape
  output : w'.output = w.output
  size : w.heap.size ≤ w'.heap.size
  block : ∀ k, k < w.heap.size → k ≠ b → L.ownBlock ≠ some k → w'.heap[k]? = w.heap[k]?
  new : L'.ownBlock = L.ownBlock ∨ ∃ g, L'.ownBlock = some g ∧ w.heap.size ≤ g

theorem Fr.refl (w : World) (b : Nat) (L : Value) : Fr w w b L L := ⟨rfl, rfl, rfl, Nat.le_refl _, fun _ _ _ _ => rfl, .inl rfl⟩
theorem Fr.trans {w w1 w2 : World} {b : Nat} {L L1 L2 : Value} (h : Fr w w1 b L L1) (k : Fr w1 w2 b L1 L2) : Fr w w2 b L L2 := by
  refine ⟨k.os.trans h.os, k.tape.trans h.tape, k.output.trans h.output, Nat.le_trans h.size k.size, fun i hi hb hL => ?_, ?_⟩
  · refine (k.block i (Nat.lt_of_lt_of_le hi h.size) hb ?_).trans (h.block i hi hb hL)
    rcases h.new with e | ⟨g, e, hg⟩
    · rw [e]; exact hL
    · rw [e]; simp; omega
  · rcases k.new with e | ⟨g, e, hg⟩
    · rw [e]; exact h.new
    · exact .inr ⟨g, e, Nat.le_trans h.size hg⟩
theorem Fr.grown {w w' : World} {b : Nat} {L : Value} (h : w.grownBy w' (some b)) : Fr w w' b L L := ⟨h.os, h.tape, h.output, h.size, fun k hk hb _ => h.block k hk (by simpa using hb), .inl rfl⟩
theorem Fr.grown' {w w' : World} {b : Nat} {L : Value} (h : w.grownBy w' none) : Fr w w' b L L := Fr.grown (grown_some h)
theorem Fr.set (w : World) (b o : Nat) (v L : Value) : Fr w (w.setCell ⟨b, o, none⟩ v) b L L := Fr.grown (grown_set w ⟨b, o, none⟩ v)
/-- A row of the call's own may have been written besides. -/
theorem Fr.own {w w1 w2 : World} {b : Nat} {L L' : Value} {g : Nat} (h : Fr w w1 b L L') (k : w1.grownBy w2 (some g)) (hg : w.heap.size ≤ g) : Fr w w2 b L L' :=
  ⟨k.os.trans h.os, k.tape.trans h.tape, k.output.trans h.output, Nat.le_trans h.size k.size, fun i hi hb hL => (k.block i (Nat.lt_of_lt_of_le hi h.size) (by simp; omega)).trans (h.block i hi hb hL), h.new⟩
theorem Fr.below {w w' : World} {b B : Nat} {L L' : Value} (h : Fr w w' b L L') (hb : B ≤ b) (hB : B ≤ w.heap.size) (hL : ∀ g, L.ownBlock = some g → B ≤ g) : Below B w w' :=
  ⟨h.os, h.tape, h.output, h.size, fun k hk => h.block k (by omega) (by omega) (fun e => by have := hL k e; omega)⟩

theorem Parts.block {w : World} {b : Nat} {L : Value} {ps : List PartR} (h : Parts w b L ps) : ∀ g, L.ownBlock = some g → b < g ∧ g < w.heap.size := fun g e => by have := h.own.lt g e; omega

/-- The reader's own block, or another one besides the list, is written. -/
theorem Parts.kept {w w' : World} {b g : Nat} {L : Value} {ps : List PartR} (h : Parts w b L ps) (hg : w.grownBy w' (some g)) (hL : L.ownBlock ≠ some g) (hk : g = b ∨ w.heap.size ≤ g) : Parts w' b L ps := by
  refine ⟨h.own.kept hg (.inr hL), fun p hp => (h.at_ p hp).kept fun q hq hlt => ⟨hq, hg.block q hlt ?_⟩⟩
  simp; omega
theorem Parts.kept' {w w' : World} {b : Nat} {L : Value} {ps : List PartR} (h : Parts w b L ps) (hg : w.grownBy w' none) : Parts w' b L ps :=
  h.kept (grown_some (row := some b) hg) (fun e => by have := h.block b e; omega) (.inl rfl)
theorem Parts.set {w : World} {b : Nat} {L : Value} {ps : List PartR} (h : Parts w b L ps) (o : Nat) (v : Value) : Parts (w.setCell ⟨b, o, none⟩ v) b L ps :=
  h.kept (grown_set w ⟨b, o, none⟩ v) (fun e => by have := h.block b e; omega) (.inl rfl)

theorem now_any (s : ByteArray) (b i d : Nat) (L : Value) (c : Int) (a : Nat) (w : World) (hs : s.size ≤ 4000) (hi : i ≤ s.size) (h : RRd w b s i d L c a) :
    Calls Try.prog 28 #[.pointer (some ⟨b, 0, none⟩)] w fun e w' => e = .returned (.int .u8 (byteAt s i)) ∧ w.grownBy w' none := by
  have c0 := h.c0
  have c1 := h.c1
  have f0 := h.f 0
  have f1 := h.f 1
  clear h
  by_cases h1 : i = s.size
  · have h1' : (s.size : Int) ≤ (i : Int) := by omega
    go_enter Try.func28, Try.ntmps28
    go_wp2
    go_quiet (fail)
    go_wp2
    go_ret
    exact ⟨by simp [byteAt, h1], grown_drewN (grown_refl _ _) _⟩
  · have h2 : i < s.size := by omega
    have h1' : decide ((s.size : Int) ≤ (i : Int)) = false := by simp; omega
    have h3 : (i : Int) < (s.size : Int) := by omega
    have h4 : (0 : Int) ≤ (i : Int) := by omega
    go_enter Try.func28, Try.ntmps28
    go_wp2
    go_quiet (fail)
    go_wp2
    go_quiet (fail)
    go_wp2
    go_ret
    exact ⟨by simp [byteAt, h2], grown_drewN (grown_drewN (grown_refl _ _) _) _⟩

theorem ok_any (s : ByteArray) (b i d : Nat) (L : Value) (c : Int) (a : Nat) (w : World) (h : RRd w b s i d L c a) :
    Calls Try.prog 29 #[.pointer (some ⟨b, 0, none⟩)] w fun e w' => e = .returned (.bool (c == 0)) ∧ w' = w := by
  have c4 := h.c4
  have f4 := h.f 4
  clear h
  go_enter Try.func29, Try.ntmps29
  go_wp2
  go_ret
  exact ⟨rfl, rfl⟩

theorem fail_first (s : ByteArray) (b i d : Nat) (L : Value) (a : Nat) (c : Int) (w : World) (h : RRd w b s i d L 0 a) :
    Calls Try.prog 18 #[.pointer (some ⟨b, 0, none⟩), .int .i64 c] w fun e w' => e = .returned (.tuple #[]) ∧ w.grownBy w' (some b) ∧ RRd w' b s i d L c i := by
  have c1 := h.c1
  have c4 := h.c4
  have c5 := h.c5
  have f1 := h.f 1
  have f4 := h.f 4
  have f5 := h.f 5
  have H : Hid (RRd w b s i d L 0 a) := h
  clear h
  go_enter Try.func18, Try.ntmps18
  go_wp2
  go_end0
  exact ⟨rfl, grown_trans (grown_set _ _ _) (grown_set _ _ _), H.out.set45 c i⟩

theorem fail_again (s : ByteArray) (b i d : Nat) (L : Value) (c0 : Int) (a : Nat) (c : Int) (w : World) (hc : c0 ≠ 0) (h : RRd w b s i d L c0 a) :
    Calls Try.prog 18 #[.pointer (some ⟨b, 0, none⟩), .int .i64 c] w fun e w' => e = .returned (.tuple #[]) ∧ w' = w := by
  have c4 := h.c4
  have f4 := h.f 4
  have hc' : (c0 == 0) = false := by simpa using hc
  clear h
  go_enter Try.func18, Try.ntmps18
  go_wp2
  go_end0
  exact ⟨rfl, rfl⟩

end Go.Proofs.Yticmfgclkepgoaa

namespace Go.Proofs.Yticmfgclkepgoaa
open Go.RowKit
set_option linter.unusedVariables false

theorem Try.infoPartR : (Try.prog.info? 67).map (fun i => (i.zero, i.size, i.bytes)) = some (some (.agg #[.int .i64 0, .int .i64 0, .slice none 0 0]), 3, 40) := by kernel_rfl

theorem news3 {W : World} {x y z : Value} {t : TypeId} {B : Nat} (h : W.heap[B]? = some (.cells #[x, y, z] t (0, 0))) : ∀ j u, [x, y, z][j]? = some u → W.cell? ((⟨B, 0, none⟩ : Addr).add j) = some u := fun j u hu => World.news_of_block h j u (by simpa using hu)

theorem put_end {s : ByteArray} {b i d : Nat} {L : Value} {c : Int} {a : Nat} {w W w1 : World} {ps : List PartR} {p : PartR} {g cap : Nat} (R1 : RRd W b s i d L c a) (F1 : w.grownBy W none) (HP : Parts w b L ps) (HK : KidsAt (fun g => b < g ∧ L.ownBlock ≠ some g) w p)
    (hown : w1.ownsRow (b + 1) 67 3 (.slice (some ⟨g, 0, none⟩) (ps.length + 1) cap) (ps.length + 1) (flat ps ++ [.int .i64 p.kind, .int .i64 p.let_, p.kv])) (hgrow : W.grownBy w1 L.ownBlock) (hat : L.ownBlock = some g ∨ g = W.heap.size) :
    RRd (w1.setCell ⟨b, 3, none⟩ (.slice (some ⟨g, 0, none⟩) (ps.length + 1) cap)) b s i d (.slice (some ⟨g, 0, none⟩) (ps.length + 1) cap) c a ∧ Parts (w1.setCell ⟨b, 3, none⟩ (.slice (some ⟨g, 0, none⟩) (ps.length + 1) cap)) b (.slice (some ⟨g, 0, none⟩) (ps.length + 1) cap) (ps ++ [p]) ∧ Fr w (w1.setCell ⟨b, 3, none⟩ (.slice (some ⟨g, 0, none⟩) (ps.length + 1) cap)) b L (.slice (some ⟨g, 0, none⟩) (ps.length + 1) cap) := by
  have hb : L.ownBlock ≠ some b := fun e => by have := HP.block b e; omega
  have hbl : ∀ q, q < w.heap.size → q ≠ b → L.ownBlock ≠ some q → (w1.setCell ⟨b, 3, none⟩ (.slice (some ⟨g, 0, none⟩) (ps.length + 1) cap)).heap[q]? = w.heap[q]? := by
    intro q hq hqb hqL
    rw [Below.heap_setCell _ _ _ _ hqb, hgrow.block q (Nat.lt_of_lt_of_le hq F1.size) (Ne.symm hqL), F1.block q hq (by simp)]
  have hgn : ∀ q, q < w.heap.size → L.ownBlock ≠ some q → (Value.slice (some ⟨g, 0, none⟩) (ps.length + 1) cap).ownBlock ≠ some q := by
    intro q hq hqL e
    simp [Value.ownBlock] at e
    subst e
    rcases hat with h | h
    · exact hqL h
    · have := F1.size; omega
  refine ⟨(R1.kept hgrow hb).set3 _, ⟨?_, ?_⟩, ⟨hgrow.os.trans F1.os, hgrow.tape.trans F1.tape, hgrow.output.trans F1.output, ?_, hbl, ?_⟩⟩
  · have := ownsRow_setCell_below (a := ⟨b, 3, none⟩) hown (by simp) (.slice (some ⟨g, 0, none⟩) (ps.length + 1) cap)
    rw [flat_append]
    simpa [flat] using this
  · intro q hq
    rcases List.mem_append.1 hq with h | h
    · exact (HP.at_ q h).kept fun k ⟨hk1, hk2⟩ hk3 => ⟨⟨hk1, hgn k hk3 hk2⟩, hbl k hk3 (by omega) hk2⟩
    · have : q = p := by simpa using h
      subst this
      exact HK.kept fun k ⟨hk1, hk2⟩ hk3 => ⟨⟨hk1, hgn k hk3 hk2⟩, hbl k hk3 (by omega) hk2⟩
  · have h1 := hgrow.size
    have h2 := F1.size
    simp [World.setCell]
    omega
  · rcases hat with h | h
    · exact .inl (by rw [h]; rfl)
    · exact .inr ⟨g, rfl, by have := F1.size; omega⟩

set_option maxHeartbeats 800000 in
theorem put_any (s : ByteArray) (b i d : Nat) (L : Value) (c : Int) (a : Nat) (w : World) (ps : List PartR) (p : PartR) (hn : ps.length ≤ 13000) (h : RRd w b s i d L c a) (hp : Parts w b L ps) (hk : KidsAt (fun g => b < g ∧ L.ownBlock ≠ some g) w p) :
    Calls Try.prog 30 #[.pointer (some ⟨b, 0, none⟩), .agg #[.int .i64 p.kind, .int .i64 p.let_, p.kv]] w fun e w' => e = .returned (.int .i64 ps.length) ∧ ∃ L', RRd w' b s i d L' c a ∧ Parts w' b L' (ps ++ [p]) ∧ Fr w w' b L L' := by
  obtain ⟨i0, hi0, hz0, hz1, hz2⟩ := info_parts Try.infoPartR
  obtain ⟨q0, q1, q2, hkv⟩ := hk.1
  have H : Hid (RRd w b s i d L c a) := h
  have HP : Hid (Parts w b L ps) := hp
  have HK : Hid (KidsAt (fun g => b < g ∧ L.ownBlock ≠ some g) w p) := hk
  have hlt := h.lt
  have c3 := h.c3
  have f3 := h.f 3
  clear h hp hk
  rw [hkv]
  have HKV : Hid (p.kv = .slice q0 q1 q2) := hkv
  clear hkv
  have hsz : Hid (b + 1 ≤ w.heap.size + 1 + 1) := by show _ ≤ _; omega
  generalize hW : (((w.alloc (.cells #[.int .i64 p.kind, .int .i64 p.let_, .slice q0 q1 q2] 67)).alloc (.cells #[.int .i64 p.kind, .int .i64 p.let_, .slice q0 q1 q2] 67)).drew) = W
  have HW : Hid ((((w.alloc (.cells #[.int .i64 p.kind, .int .i64 p.let_, .slice q0 q1 q2] 67)).alloc (.cells #[.int .i64 p.kind, .int .i64 p.let_, .slice q0 q1 q2] 67)).drew) = W) := hW
  have hWs : W.heap.size = w.heap.size + 1 + 1 := by rw [← hW]; simp
  have O1 : Hid (W.ownsRow (b + 1) 67 3 L ps.length (flat ps)) := by
    show W.ownsRow _ _ _ _ _ _
    rw [← hW]; exact (HP.out.own.alloc _).alloc _
  have N1 : Hid (W.heap[w.heap.size + 1]? = some (.cells #[.int .i64 p.kind, .int .i64 p.let_, .slice q0 q1 q2] 67 (0, 0))) := by
    show W.heap[w.heap.size + 1]? = _
    have h1 := heap_alloc_new (w.alloc (.cells #[.int .i64 p.kind, .int .i64 p.let_, .slice q0 q1 q2] 67)) (.cells #[.int .i64 p.kind, .int .i64 p.let_, .slice q0 q1 q2] 67)
    have h2 : (w.alloc (.cells #[.int .i64 p.kind, .int .i64 p.let_, .slice q0 q1 q2] 67)).heap.size = w.heap.size + 1 := by simp
    rw [h2] at h1
    rw [← hW]
    exact h1
  have HWs : Hid (W.heap.size = w.heap.size + 1 + 1) := hWs
  have F1 : Hid (w.grownBy W none) := by
    show w.grownBy W none
    rw [← hW]
    exact grown_drew (grown_trans (World.grownBy_alloc _ _ _) (World.grownBy_alloc _ _ _))
  have R1 : Hid (RRd W b s i d L c a) := H.out.kept F1.out (by simp)
  clear hW hWs
  go_enter Try.func30, Try.ntmps30
  go_wp2_with fail
  go_region_law (rw [HW.out]; refine step_append_lies W rfl (.tmp 9) (.tmp 11) 32 rfl (b + 1) 67 i0 (.agg #[.int .i64 0, .int .i64 0, .slice none 0 0]) 3 40 Try.underlying32 hi0 hz0 hz1 hz2 rfl (by decide) L ps.length (flat ps) (by simp [Act.eval]) O1.out ⟨w.heap.size + 1, 0, none⟩ 1 1 [.int .i64 p.kind, .int .i64 p.let_, .slice q0 q1 q2] (by simp [Act.eval]) rfl (news3 N1.out) (by intro u hu; simp at hu; rcases hu with rfl | rfl | rfl <;> rfl) (by omega) (by unfold maxLen; omega) (by omega) (by have := HWs.out; omega) (w.heap.size + 1 + 1) HWs.out ?_; intro g cap w1 hown hgrow hat hlt1; have k3 : w1.cell? ⟨b, 3, none⟩ = some L := (hgrow.cell_far ⟨b, 3, none⟩ (by have := HWs.out; show b < W.heap.size; omega) (fun e => by have := HP.out.block b e.symm; omega)).trans R1.out.c3; have e3 : w1.frozen? ⟨b, 3, none⟩ = false := (hgrow.frozen_far ⟨b, 3, none⟩ (by have := HWs.out; show b < W.heap.size; omega) (fun e => by have := HP.out.block b e.symm; omega)).trans (R1.out.f 3))
  all_goals
    have E := put_end (p := p) R1.out F1.out HP.out HK.out (by rw [HKV.out]; exact hown) hgrow (hat.imp id fun e => e.trans HWs.out.symm)
    have HE : Hid _ := E
    clear hown hgrow hat hlt1 E
    go_wp2_with fail
    go_ret
    exact ⟨ret_int (by simp), _, HE.out⟩

end Go.Proofs.Yticmfgclkepgoaa
