/- A part is put behind the others, as the reference does it. -/
import Derived.Test.YtepldeogcoigkaaDoorRBase
namespace Go.Proofs.YtepldeogcoigkaaDoor
open Go.RowKit
set_option linter.unusedVariables false

theorem Tryd.infoPartR : (Tryd.prog.info? 70).map (fun i => (i.zero, i.size, i.bytes)) = some (some (.agg #[.int .i64 0, .int .i64 0, .slice none 0 0]), 3, 40) := by kernel_rfl

theorem news3 {W : World} {x y z : Value} {t : TypeId} {B : Nat} (h : W.heap[B]? = some (.cells #[x, y, z] t (0, 0))) : ∀ j u, [x, y, z][j]? = some u → W.cell? ((⟨B, 0, none⟩ : Addr).add j) = some u := fun j u hu => World.news_of_block h j u (by simpa using hu)

theorem put_end {s : ByteArray} {b i d : Nat} {L : Value} {c : Int} {a : Nat} {w W w1 : World} {ps : List PartR} {p : PartR} {g cap : Nat} (R1 : RRd W b s i d L c a) (F1 : w.grownBy W none) (HP : Parts w b L ps) (HK : KidsAt (fun g => b < g ∧ L.ownBlock ≠ some g) w p)
    (hown : w1.ownsRow (b + 1) 70 3 (.slice (some ⟨g, 0, none⟩) (ps.length + 1) cap) (ps.length + 1) (flat ps ++ [.int .i64 p.kind, .int .i64 p.let_, p.kv])) (hgrow : W.grownBy w1 L.ownBlock) (hat : L.ownBlock = some g ∨ g = W.heap.size) :
    RRd (w1.setCell ⟨b, 3, none⟩ (.slice (some ⟨g, 0, none⟩) (ps.length + 1) cap)) b s i d (.slice (some ⟨g, 0, none⟩) (ps.length + 1) cap) c a ∧ Parts (w1.setCell ⟨b, 3, none⟩ (.slice (some ⟨g, 0, none⟩) (ps.length + 1) cap)) b (.slice (some ⟨g, 0, none⟩) (ps.length + 1) cap) (ps ++ [p]) ∧ Fr w (w1.setCell ⟨b, 3, none⟩ (.slice (some ⟨g, 0, none⟩) (ps.length + 1) cap)) b L (.slice (some ⟨g, 0, none⟩) (ps.length + 1) cap) := by
  have hb : L.ownBlock ≠ some b := fun e => by have := HP.block b e; omega
  have hbl : ∀ q, q < w.heap.size → q ≠ b → L.ownBlock ≠ some q → (w1.setCell ⟨b, 3, none⟩ (.slice (some ⟨g, 0, none⟩) (ps.length + 1) cap)).heap[q]? = w.heap[q]? := by
    intro q hq hqb hqL
    rw [Below.heap_setCell _ _ _ _ hqb, hgrow.block q (Nat.lt_of_lt_of_le hq F1.size) (Ne.symm hqL), F1.block q hq (by simp)]
  have hgn : ∀ q, q < w.heap.size → L.ownBlock ≠ some q → (Value.slice (some ⟨g, 0, none⟩) (ps.length + 1) cap).ownBlock ≠ some q := by
    intro q hq hqL e
    simp [Value.ownBlock] at e
    subst e
    rcases hat with h | h
    · exact hqL h
    · have := F1.size; omega
  refine ⟨(R1.kept hgrow hb).set3 _, ⟨?_, ?_⟩, ⟨hgrow.os.trans F1.os, hgrow.tape.trans F1.tape, hgrow.output.trans F1.output, ?_, hbl, ?_⟩⟩
  · have := ownsRow_setCell_below (a := ⟨b, 3, none⟩) hown (by simp) (.slice (some ⟨g, 0, none⟩) (ps.length + 1) cap)
    rw [flat_append]
    simpa [flat] using this
  · intro q hq
    rcases List.mem_append.1 hq with h | h
    · exact (HP.at_ q h).kept fun k ⟨hk1, hk2⟩ hk3 => ⟨⟨hk1, hgn k hk3 hk2⟩, hbl k hk3 (by omega) hk2⟩
    · have : q = p := by simpa using h
      subst this
      exact HK.kept fun k ⟨hk1, hk2⟩ hk3 => ⟨⟨hk1, hgn k hk3 hk2⟩, hbl k hk3 (by omega) hk2⟩
  · have h1 := hgrow.size
    have h2 := F1.size
    simp [World.setCell]
    omega
  · rcases hat with h | h
    · exact .inl (by rw [h]; rfl)
    · exact .inr ⟨g, rfl, by have := F1.size; omega⟩

set_option maxHeartbeats 800000 in
theorem put_any (s : ByteArray) (b i d : Nat) (L : Value) (c : Int) (a : Nat) (w : World) (ps : List PartR) (p : PartR) (hn : ps.length ≤ 13000) (h : RRd w b s i d L c a) (hp : Parts w b L ps) (hk : KidsAt (fun g => b < g ∧ L.ownBlock ≠ some g) w p) :
    Calls Tryd.prog 24 #[.pointer (some ⟨b, 0, none⟩), .agg #[.int .i64 p.kind, .int .i64 p.let_, p.kv]] w fun e w' => e = .returned (.int .i64 ps.length) ∧ ∃ L', RRd w' b s i d L' c a ∧ Parts w' b L' (ps ++ [p]) ∧ Fr w w' b L L' := by
  obtain ⟨i0, hi0, hz0, hz1, hz2⟩ := info_parts Tryd.infoPartR
  obtain ⟨q0, q1, q2, hkv⟩ := hk.1
  have H : Hid (RRd w b s i d L c a) := h
  have HP : Hid (Parts w b L ps) := hp
  have HK : Hid (KidsAt (fun g => b < g ∧ L.ownBlock ≠ some g) w p) := hk
  have hlt := h.lt
  have c3 := h.c3
  have f3 := h.f 3
  clear h hp hk
  rw [hkv]
  have HKV : Hid (p.kv = .slice q0 q1 q2) := hkv
  clear hkv
  have hsz : Hid (b + 1 ≤ w.heap.size + 1 + 1) := by show _ ≤ _; omega
  generalize hW : (((w.alloc (.cells #[.int .i64 p.kind, .int .i64 p.let_, .slice q0 q1 q2] 70)).alloc (.cells #[.int .i64 p.kind, .int .i64 p.let_, .slice q0 q1 q2] 70)).drew) = W
  have HW : Hid ((((w.alloc (.cells #[.int .i64 p.kind, .int .i64 p.let_, .slice q0 q1 q2] 70)).alloc (.cells #[.int .i64 p.kind, .int .i64 p.let_, .slice q0 q1 q2] 70)).drew) = W) := hW
  have hWs : W.heap.size = w.heap.size + 1 + 1 := by rw [← hW]; simp
  have O1 : Hid (W.ownsRow (b + 1) 70 3 L ps.length (flat ps)) := by
    show W.ownsRow _ _ _ _ _ _
    rw [← hW]; exact (HP.out.own.alloc _).alloc _
  have N1 : Hid (W.heap[w.heap.size + 1]? = some (.cells #[.int .i64 p.kind, .int .i64 p.let_, .slice q0 q1 q2] 70 (0, 0))) := by
    show W.heap[w.heap.size + 1]? = _
    have h1 := heap_alloc_new (w.alloc (.cells #[.int .i64 p.kind, .int .i64 p.let_, .slice q0 q1 q2] 70)) (.cells #[.int .i64 p.kind, .int .i64 p.let_, .slice q0 q1 q2] 70)
    have h2 : (w.alloc (.cells #[.int .i64 p.kind, .int .i64 p.let_, .slice q0 q1 q2] 70)).heap.size = w.heap.size + 1 := by simp
    rw [h2] at h1
    rw [← hW]
    exact h1
  have HWs : Hid (W.heap.size = w.heap.size + 1 + 1) := hWs
  have F1 : Hid (w.grownBy W none) := by
    show w.grownBy W none
    rw [← hW]
    exact grown_drew (grown_trans (World.grownBy_alloc _ _ _) (World.grownBy_alloc _ _ _))
  have R1 : Hid (RRd W b s i d L c a) := H.out.kept F1.out (by simp)
  clear hW hWs
  go_enter Tryd.func24, Tryd.ntmps24
  go_wp2_with fail
  go_region_law (rw [HW.out]; refine step_append_lies W rfl (.tmp 9) (.tmp 11) 26 rfl (b + 1) 70 i0 (.agg #[.int .i64 0, .int .i64 0, .slice none 0 0]) 3 40 Tryd.underlying26 hi0 hz0 hz1 hz2 rfl (by decide) L ps.length (flat ps) (by simp [Act.eval]) O1.out ⟨w.heap.size + 1, 0, none⟩ 1 1 [.int .i64 p.kind, .int .i64 p.let_, .slice q0 q1 q2] (by simp [Act.eval]) rfl (news3 N1.out) (by intro u hu; simp at hu; rcases hu with rfl | rfl | rfl <;> rfl) (by omega) (by unfold maxLen; omega) (by omega) (by have := HWs.out; omega) (w.heap.size + 1 + 1) HWs.out ?_; intro g cap w1 hown hgrow hat hlt1; have k3 : w1.cell? ⟨b, 3, none⟩ = some L := (hgrow.cell_far ⟨b, 3, none⟩ (by have := HWs.out; show b < W.heap.size; omega) (fun e => by have := HP.out.block b e.symm; omega)).trans R1.out.c3; have e3 : w1.frozen? ⟨b, 3, none⟩ = false := (hgrow.frozen_far ⟨b, 3, none⟩ (by have := HWs.out; show b < W.heap.size; omega) (fun e => by have := HP.out.block b e.symm; omega)).trans (R1.out.f 3))
  all_goals
    have E := put_end (p := p) R1.out F1.out HP.out HK.out (by rw [HKV.out]; exact hown) hgrow (hat.imp id fun e => e.trans HWs.out.symm)
    have HE : Hid _ := E
    clear hown hgrow hat hlt1 E
    go_wp2_with fail
    go_ret
    exact ⟨ret_int (by simp), _, HE.out⟩

end Go.Proofs.YtepldeogcoigkaaDoor
